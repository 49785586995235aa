/- superblocks in memory: upTo, mayBe, first, home, fits, Bytes -/
import Derived.Test.YtecmfpgccmmlpaaPb
namespace Go.Proofs.Ytecmfpgccmmlpaa
open Go.RowKit
set_option maxRecDepth 100000
set_option linter.unusedVariables false
set_option linter.unusedSimpArgs false
def upB (x : Int) : Bool := decide (0 ≤ x ∧ x ≤ 1024)
theorem upTo_any (x : Int) (w : World) : Calls Try.prog 60 #[.int .i64 x] w fun e w' => e = .returned (.bool (upB x)) ∧ w' = w := by
  have HT : Hid (upB x = decide (0 ≤ x ∧ x ≤ 1024)) := hide rfl
  generalize upB x = b at *
  by_cases h1 : (0 : Int) ≤ x
  · have d1 : decide ((0 : Int) ≤ x) = true := decide_eq_true h1
    by_cases h2 : x ≤ 1024
    · have d2 : decide (x ≤ 1024) = true := decide_eq_true h2
      have HB : Hid (b = true) := hide (by rw [HT.out]; exact decide_eq_true ⟨h1, h2⟩)
      clear h1 h2
      go_enter Try.func60, Try.ntmps60
      go_wp2
      go_ret
      exact ⟨by rw [HB.out]; rfl, rfl⟩
    · have d2 : decide (x ≤ 1024) = false := decide_eq_false h2
      have HB : Hid (b = false) := hide (by rw [HT.out]; exact decide_eq_false (fun h => h2 h.2))
      clear h1 h2
      go_enter Try.func60, Try.ntmps60
      go_wp2
      go_ret
      exact ⟨by rw [HB.out]; rfl, rfl⟩
  · have d1 : decide ((0 : Int) ≤ x) = false := decide_eq_false h1
    have HB : Hid (b = false) := hide (by rw [HT.out]; exact decide_eq_false (fun h => h1 h.1))
    clear h1
    go_enter Try.func60, Try.ntmps60
    go_wp2
    go_ret
    exact ⟨by rw [HB.out]; rfl, rfl⟩
theorem first_any (x : Int) (h0 : -9223372036854775808 ≤ x) (h1 : x ≤ 9223372036854775805) (w : World) : Calls Try.prog 46 #[.int .i64 x] w fun e w' => e = .returned (.int .i64 (2 + x)) ∧ w' = w := by
  have hw : wrap64 (2 + x) = 2 + x := by unfold wrap64; omega
  go_enter Try.func46, Try.ntmps46
  go_wp2
  go_ret
  exact ⟨by first | rw [hw] | skip; rfl, rfl⟩
def fitsB (j n : Int) : Bool := decide (1 ≤ j ∧ j ≤ n - 34)
theorem fits_any (j : Int) (n : Nat) (hn : n ≤ 1024) (w : World) : Calls Try.prog 39 #[.int .i64 j, .int .i64 (n : Nat)] w fun e w' => e = .returned (.bool (fitsB j n)) ∧ w' = w := by
  have HT : Hid (fitsB j n = decide (1 ≤ j ∧ j ≤ (n : Int) - 34)) := hide rfl
  generalize fitsB j n = b at *
  have w1 : wrap64 ((n : Int) - 2) = (n : Int) - 2 := by unfold wrap64; omega
  have w2 : wrap64 ((n : Int) - 2 - 32) = (n : Int) - 2 - 32 := by unfold wrap64; omega
  by_cases h1 : (1 : Int) ≤ j
  · have d1 : decide ((1 : Int) ≤ j) = true := decide_eq_true h1
    by_cases h2 : j ≤ (n : Int) - 34
    · have d2 : decide (j ≤ (n : Int) - 2 - 32) = true := decide_eq_true (by omega)
      have HB : Hid (b = true) := hide (by rw [HT.out]; exact decide_eq_true ⟨h1, h2⟩)
      clear h1 h2
      go_enter Try.func39, Try.ntmps39
      go_wp2
      go_ret
      exact ⟨by rw [HB.out]; rfl, rfl⟩
    · have d2 : decide (j ≤ (n : Int) - 2 - 32) = false := decide_eq_false (by omega)
      have HB : Hid (b = false) := hide (by rw [HT.out]; exact decide_eq_false (fun h => h2 h.2))
      clear h1 h2
      go_enter Try.func39, Try.ntmps39
      go_wp2
      go_ret
      exact ⟨by rw [HB.out]; rfl, rfl⟩
  · have d1 : decide ((1 : Int) ≤ j) = false := decide_eq_false h1
    have HB : Hid (b = false) := hide (by rw [HT.out]; exact decide_eq_false (fun h => h1 h.1))
    clear h1
    go_enter Try.func39, Try.ntmps39
    go_wp2
    go_ret
    exact ⟨by rw [HB.out]; rfl, rfl⟩
/-- a superblock's cells -/
def supC (s : Sup) : Array Value := #[.int .u64 (s.gen : Nat), .int .i64 s.root, .int .u64 (s.seq : Nat), .int .i64 s.jn, .int .i64 s.live]
def supV (s : Sup) : Value := .agg (supC s)
theorem home_any (s : Sup) (w : World) (h : s.gen ≤ 18446744073709551615) : Calls Try.prog 63 #[supV s] w fun e w' => e = .returned (.int .i64 ((s.gen % 2 : Nat) : Int)) ∧ Below w.heap.size w w' := by
  have hw : IntKind.i64.wrap ((s.gen : Int) % 2) = ((s.gen % 2 : Nat) : Int) := by rw [IntKind.wrap_i64]; omega
  have HB : Hid (Below w.heap.size w (w.alloc (.cells #[.int .u64 (s.gen : Nat), .int .i64 s.root, .int .u64 (s.seq : Nat), .int .i64 s.jn, .int .i64 s.live] 24))) := hide ((Below.refl _ w).alloc (Nat.le_refl _) _)
  unfold supV supC
  obtain ⟨gen, root, seq, jn, live⟩ := s
  dsimp only at hw HB ⊢
  go_enter Try.func63, Try.ntmps63
  go_wp2_with fail
  go_ret
  exact ⟨by first | rw [hw] | skip; rfl, HB.out⟩
/-- what the program's mayBe asks, in its order -/
theorem may_eq (s : Sup) : s.may = (decide (1 ≤ (s.gen : Int)) && decide ((s.gen : Int) ≤ 4611686018427387904) && decide (1 ≤ (s.seq : Int)) && decide ((s.seq : Int) ≤ 2305843009213693952) && upB s.root && upB s.live && (s.jn != 0) && upB s.jn) := by
  rw [Bool.eq_iff_iff]
  simp only [Sup.may, upB, Bool.and_eq_true, decide_eq_true_eq, bne_iff_ne]
  omega
theorem mayBe_any (s : Sup) (w : World) : Calls Try.prog 30 #[supV s] w fun e w' => e = .returned (.bool s.may) ∧ Below w.heap.size w w' := by
  have HT := hide (may_eq s)
  generalize s.may = b at *
  have HB : Hid (Below w.heap.size w (w.alloc (.cells #[.int .u64 (s.gen : Nat), .int .i64 s.root, .int .u64 (s.seq : Nat), .int .i64 s.jn, .int .i64 s.live] 24))) := hide ((Below.refl _ w).alloc (Nat.le_refl _) _)
  unfold supV supC
  obtain ⟨gen, root, seq, jn, live⟩ := s
  dsimp only at HT HB ⊢
  cases c0 : (decide ((1 : Int) ≤ (gen : Int)))
  case false =>
    have HF : Hid (b = false) := hide (by rw [HT.out, c0]; rfl)
    clear HT
    go_enter Try.func30, Try.ntmps30
    go_wp2
    go_ret
    exact ⟨by rw [HF.out]; rfl, HB.out⟩
  case true =>
    cases c1 : (decide ((gen : Int) ≤ 4611686018427387904))
    case false =>
      have HF : Hid (b = false) := hide (by rw [HT.out, c0, c1]; rfl)
      clear HT
      go_enter Try.func30, Try.ntmps30
      go_wp2
      go_ret
      exact ⟨by rw [HF.out]; rfl, HB.out⟩
    case true =>
      cases c2 : (decide ((1 : Int) ≤ (seq : Int)))
      case false =>
        have HF : Hid (b = false) := hide (by rw [HT.out, c0, c1, c2]; rfl)
        clear HT
        go_enter Try.func30, Try.ntmps30
        go_wp2
        go_ret
        exact ⟨by rw [HF.out]; rfl, HB.out⟩
      case true =>
        cases c3 : (decide ((seq : Int) ≤ 2305843009213693952))
        case false =>
          have HF : Hid (b = false) := hide (by rw [HT.out, c0, c1, c2, c3]; rfl)
          clear HT
          go_enter Try.func30, Try.ntmps30
          go_wp2
          go_ret
          exact ⟨by rw [HF.out]; rfl, HB.out⟩
        case true =>
          cases c4 : (upB root)
          case false =>
            have HF : Hid (b = false) := hide (by rw [HT.out, c0, c1, c2, c3, c4]; rfl)
            clear HT
            go_enter Try.func30, Try.ntmps30
            go_wp2_with fail
            refine (upTo_any _ _).mono ?_
            rintro e w1 ⟨rfl, rfl⟩
            rw [c4]
            go_wp2
            go_ret
            exact ⟨by rw [HF.out]; rfl, HB.out⟩
          case true =>
            cases c5 : (upB live)
            case false =>
              have HF : Hid (b = false) := hide (by rw [HT.out, c0, c1, c2, c3, c4, c5]; rfl)
              clear HT
              go_enter Try.func30, Try.ntmps30
              go_wp2_with fail
              refine (upTo_any _ _).mono ?_
              rintro e w1 ⟨rfl, rfl⟩
              rw [c4]
              go_wp2_with fail
              refine (upTo_any _ _).mono ?_
              rintro e w1 ⟨rfl, rfl⟩
              rw [c5]
              go_wp2
              go_ret
              exact ⟨by rw [HF.out]; rfl, HB.out⟩
            case true =>
              cases c6 : ((jn != 0))
              case false =>
                have HF : Hid (b = false) := hide (by rw [HT.out, c0, c1, c2, c3, c4, c5, c6]; rfl)
                clear HT
                go_enter Try.func30, Try.ntmps30
                go_wp2_with fail
                refine (upTo_any _ _).mono ?_
                rintro e w1 ⟨rfl, rfl⟩
                rw [c4]
                go_wp2_with fail
                refine (upTo_any _ _).mono ?_
                rintro e w1 ⟨rfl, rfl⟩
                rw [c5]
                go_wp2
                go_ret
                exact ⟨by rw [HF.out]; rfl, HB.out⟩
              case true =>
                cases c7 : (upB jn)
                case false =>
                  have HF : Hid (b = false) := hide (by rw [HT.out, c0, c1, c2, c3, c4, c5, c6, c7]; rfl)
                  clear HT
                  go_enter Try.func30, Try.ntmps30
                  go_wp2_with fail
                  refine (upTo_any _ _).mono ?_
                  rintro e w1 ⟨rfl, rfl⟩
                  rw [c4]
                  go_wp2_with fail
                  refine (upTo_any _ _).mono ?_
                  rintro e w1 ⟨rfl, rfl⟩
                  rw [c5]
                  go_wp2_with fail
                  refine (upTo_any _ _).mono ?_
                  rintro e w1 ⟨rfl, rfl⟩
                  rw [c7]
                  go_wp2
                  go_ret
                  exact ⟨by rw [HF.out]; rfl, HB.out⟩
                case true =>
                  have HF : Hid (b = true) := hide (by rw [HT.out, c0, c1, c2, c3, c4, c5, c6, c7]; rfl)
                  clear HT
                  go_enter Try.func30, Try.ntmps30
                  go_wp2_with fail
                  refine (upTo_any _ _).mono ?_
                  rintro e w1 ⟨rfl, rfl⟩
                  rw [c4]
                  go_wp2_with fail
                  refine (upTo_any _ _).mono ?_
                  rintro e w1 ⟨rfl, rfl⟩
                  rw [c5]
                  go_wp2_with fail
                  refine (upTo_any _ _).mono ?_
                  rintro e w1 ⟨rfl, rfl⟩
                  rw [c7]
                  go_wp2
                  go_ret
                  exact ⟨by rw [HF.out]; rfl, HB.out⟩
abbrev box5 (w : World) (s : Sup) : World := w.alloc (.cells #[.int .u64 (s.gen : Nat), .int .i64 s.root, .int .u64 (s.seq : Nat), .int .i64 s.jn, .int .i64 s.live] 24)
theorem bytes_no (s : Sup) (hm : s.may = false) (w : World) : Calls Try.prog 9 #[supV s] w fun e w' => e = .returned (.tuple #[.slice none 0 0, .int .i64 2]) ∧ Below w.heap.size w w' := by
  have HB : Hid (Below w.heap.size w (box5 w s)) := hide ((Below.refl _ w).alloc (Nat.le_refl _) _)
  have HM := hide (mayBe_any s (box5 w s))
  rw [hm] at HM
  clear hm
  unfold box5 supV supC at *
  obtain ⟨gen, root, seq, jn, live⟩ := s
  dsimp only at HB HM ⊢
  go_enter Try.func9, Try.ntmps9
  go_wp2_with fail
  refine HM.out.mono ?_
  rintro e w1 ⟨rfl, hb1⟩
  have HB1 := hide (HB.out.trans (hb1.mono HB.out.size))
  clear hb1 HB HM
  go_wp2
  go_ret2
  exact ⟨rfl, HB1.out⟩
theorem bytes_ok (s : Sup) (hm : s.may = true) (w : World) : Calls Try.prog 9 #[supV s] w fun e w' => ∃ q, e = .returned (.tuple #[.slice (some ⟨q, 0, none⟩) 4096 4096, .int .i64 0]) ∧ w.heap.size ≤ q ∧ Row w' q 4096 4096 (supL s) ∧ Below w.heap.size w w' := by
  have HB : Hid (Below w.heap.size w (box5 w s)) := hide ((Below.refl _ w).alloc (Nat.le_refl _) _)
  have HM := hide (mayBe_any s (box5 w s))
  rw [hm] at HM
  have HP : Hid (putN (putN (putN (putN (putN ([76, 68, 83, 66] ++ List.replicate 4088 0) 4 s.gen 8) 12 s.seq 8) 20 s.root.toNat 4) 24 s.jn.toNat 4) 28 s.live.toNat 4 = supX s) := hide (supX_put s)
  have HXL : Hid ((∀ x ∈ supX s, x < 256) ∧ supL s = supX s ++ le (Crc.update 0 (supX s))) := hide ⟨supX_lt s, rfl⟩
  have HC : Hid (∀ W : World, Below (box5 w s).heap.size (box5 w s) W → W.cell? ⟨w.heap.size, 0, none⟩ = some (.int .u64 (s.gen : Nat)) ∧ W.cell? ⟨w.heap.size, 1, none⟩ = some (.int .i64 s.root) ∧ W.cell? ⟨w.heap.size, 2, none⟩ = some (.int .u64 (s.seq : Nat)) ∧ W.cell? ⟨w.heap.size, 3, none⟩ = some (.int .i64 s.jn) ∧ W.cell? ⟨w.heap.size, 4, none⟩ = some (.int .i64 s.live)) := hide (fun W hW => by
    have hh := (hW.block w.heap.size (by simp)).trans (heap_alloc_new w _)
    exact ⟨cell_bk hh rfl, cell_bk hh rfl, cell_bk hh rfl, cell_bk hh rfl, cell_bk hh rfl⟩)
  have hmk : ∀ W : World, (Instr.makeSlice 25 (.int .i64 4092) (.int .i64 4092)).run Try.prog W = .ok (.slice (some ⟨W.heap.size, 0, none⟩) 4092 4092) (W.alloc (.cells (zeros 4092).toArray 5)) := fun W => run_mk W 4092 4092 (Nat.le_refl _) (by omega)
  obtain ⟨g1, g2, g3, g4, g5, g6, g7, g8, g9, g10⟩ := s.of_may hm
  have k1 : IntKind.u64.wrap s.root = ((s.root.toNat : Nat) : Int) := by rw [IntKind.wrap_u64]; omega
  have k2 : IntKind.u64.wrap s.jn = ((s.jn.toNat : Nat) : Int) := by rw [IntKind.wrap_u64]; omega
  have k3 : IntKind.u64.wrap s.live = ((s.live.toNat : Nat) : Int) := by rw [IntKind.wrap_u64]; omega
  clear hm g1 g2 g3 g4 g5 g6 g7 g8 g9 g10
  generalize supL s = SL at *
  generalize supX s = SX at *
  generalize hrt : s.root.toNat = RT at *
  generalize hjt : s.jn.toNat = JT at *
  generalize hlt : s.live.toNat = LT at *
  clear hrt hjt hlt
  unfold box5 supV supC at *
  obtain ⟨gen, root, seq, jn, live⟩ := s
  dsimp only at HB HM HP HC k1 k2 k3 ⊢
  go_enter Try.func9, Try.ntmps9
  go_wp2_with fail
  refine HM.out.mono ?_
  rintro e w1 ⟨rfl, hb1⟩
  have HB1 := hide (HB.out.trans (hb1.mono HB.out.size))
  have HW1 := hide hb1
  clear hb1 HB HM
  have hq : Row (w1.alloc (.cells (zeros 4092).toArray 5)) w1.heap.size 4092 4092 (List.replicate 4092 0) := ⟨List.length_replicate, Nat.le_refl _, by unfold maxLen; omega, _, heap_alloc_new w1 _, by simp [zeros], by rw [bv_zeros, List.toList_toArray, List.take_of_length_le (by simp [zeros])]⟩
  obtain ⟨W1, hcp, hr1, hf1⟩ := cp_str (l := [76, 68, 83, 66]) hq (by decide) (by decide)
  have hbx : Below w1.heap.size w1 W1 := Below.trans ((Below.refl _ w1).alloc (Nat.le_refl _) (.cells (zeros 4092).toArray 5)) (Frm.toBelow hf1 (by simp) (fun i hi => by omega))
  have hs0 : splice (List.replicate 4092 0) 0 [76, 68, 83, 66] = [76, 68, 83, 66] ++ List.replicate 4088 0 := by
    rw [splice, List.take_zero, List.nil_append, List.drop_replicate]
    rfl
  rw [hs0] at hr1
  have HR := hide hr1
  have HW2 := hide (HW1.out.trans (hbx.mono HW1.out.size))
  have HX := hide hbx
  clear hq hr1 hf1 hs0 hbx
  rw [show str [76, 68, 83, 66] = (⟨#[76, 68, 83, 66]⟩ : ByteArray) from rfl] at hcp
  generalize hm0 : [76, 68, 83, 66] ++ List.replicate 4088 0 = m0 at *
  clear hm0
  have hr3' : Row W1.drew w1.heap.size 4092 4092 _ := HR.out.below (B := W1.heap.size) (Below.refl _ _).drew HR.out.lt
  have P3 := hide (putLow_any W1.drew w1.heap.size 4092 4092 _ hr3' 4 gen 8 4088 (by omega) (by omega))
  have u3 := (HC.out _ HW2.out.drew).1
  clear hr3' HR
  go_wp2_with fail
  go_region_with (go_at_call 31; with_reducible refine P3.out.mono ?_; rintro e w3 ⟨rfl, hr3, hf3⟩)
  have HR3 := hide hr3
  have HX3 := hide (Below.trans HX.out.drew (Frm.toBelow hf3 HX.out.drew.size (fun i hi => by omega)))
  have HW3 := hide (HW1.out.trans (HX3.out.mono HW1.out.size))
  clear hr3 hf3 P3 u3 HX HW2
  have hr4' : Row w3.drew w1.heap.size 4092 4092 _ := HR3.out.below (B := w3.heap.size) (Below.refl _ _).drew HR3.out.lt
  have P4 := hide (putLow_any w3.drew w1.heap.size 4092 4092 _ hr4' 12 seq 8 4080 (by omega) (by omega))
  have u4 := (HC.out _ HW3.out.drew).2.2.1
  clear hr4' HR3
  go_wp2_with fail
  go_region_with (go_at_call 31; with_reducible refine P4.out.mono ?_; rintro e w4 ⟨rfl, hr4, hf4⟩)
  have HR4 := hide hr4
  have HX4 := hide (Below.trans HX3.out.drew (Frm.toBelow hf4 HX3.out.drew.size (fun i hi => by omega)))
  have HW4 := hide (HW1.out.trans (HX4.out.mono HW1.out.size))
  clear hr4 hf4 P4 u4 HX3 HW3
  have hr5' : Row w4.drew w1.heap.size 4092 4092 _ := HR4.out.below (B := w4.heap.size) (Below.refl _ _).drew HR4.out.lt
  have P5 := hide (putLow_any w4.drew w1.heap.size 4092 4092 _ hr5' 20 RT 4 4072 (by omega) (by omega))
  have u5 := (HC.out _ HW4.out.drew).2.1
  clear hr5' HR4
  go_wp2_with fail
  go_region_with (go_at_call 31; with_reducible refine P5.out.mono ?_; rintro e w5 ⟨rfl, hr5, hf5⟩)
  have HR5 := hide hr5
  have HX5 := hide (Below.trans HX4.out.drew (Frm.toBelow hf5 HX4.out.drew.size (fun i hi => by omega)))
  have HW5 := hide (HW1.out.trans (HX5.out.mono HW1.out.size))
  clear hr5 hf5 P5 u5 HX4 HW4
  have hr6' : Row w5.drew w1.heap.size 4092 4092 _ := HR5.out.below (B := w5.heap.size) (Below.refl _ _).drew HR5.out.lt
  have P6 := hide (putLow_any w5.drew w1.heap.size 4092 4092 _ hr6' 24 JT 4 4068 (by omega) (by omega))
  have u6 := (HC.out _ HW5.out.drew).2.2.2.1
  clear hr6' HR5
  go_wp2_with fail
  go_region_with (go_at_call 31; with_reducible refine P6.out.mono ?_; rintro e w6 ⟨rfl, hr6, hf6⟩)
  have HR6 := hide hr6
  have HX6 := hide (Below.trans HX5.out.drew (Frm.toBelow hf6 HX5.out.drew.size (fun i hi => by omega)))
  have HW6 := hide (HW1.out.trans (HX6.out.mono HW1.out.size))
  clear hr6 hf6 P6 u6 HX5 HW5
  have hr7' : Row w6.drew w1.heap.size 4092 4092 _ := HR6.out.below (B := w6.heap.size) (Below.refl _ _).drew HR6.out.lt
  have P7 := hide (putLow_any w6.drew w1.heap.size 4092 4092 _ hr7' 28 LT 4 4064 (by omega) (by omega))
  have u7 := (HC.out _ HW6.out.drew).2.2.2.2
  clear hr7' HR6
  go_wp2_with fail
  go_region_with (go_at_call 31; with_reducible refine P7.out.mono ?_; rintro e w7 ⟨rfl, hr7, hf7⟩)
  have HR7 := hide hr7
  have HX7 := hide (Below.trans HX6.out.drew (Frm.toBelow hf7 HX6.out.drew.size (fun i hi => by omega)))
  have HW7 := hide (HW1.out.trans (HX7.out.mono HW1.out.size))
  clear hr7 hf7 P7 u7 HX6 HW6
  rw [HP.out] at HR7
  have hI : IsB w7 (some ⟨w1.heap.size, 0, none⟩) 4092 4092 SX := HR7.out.isB HXL.out.1
  have PS := hide (seal_any _ 4092 4092 SX w7 hI (by omega))
  have HF := hide (HB1.out.trans (HX7.out.mono HB1.out.size))
  have hsz : Hid (w.heap.size ≤ w7.heap.size) := hide HF.out.size
  rw [← HXL.out.2] at PS
  clear hI HR7 HX7 HW7 HC HP hcp hmk
  go_wp2_with fail
  refine PS.out.mono ?_
  rintro e w9 ⟨g, rfl, ho, hb⟩
  obtain ⟨g', c', he, hg, hrow⟩ := Row.of_owns ho (by omega)
  cases he
  have HO := hide hrow
  have HG := hide (Nat.le_trans hsz.out hg)
  have HBB := hide (HF.out.trans (hb.mono HF.out.size))
  clear ho hrow hb hg PS hsz HF
  go_wp2_with fail
  go_ret2
  exact ⟨_, rfl, HG.out, HO.out, HBB.out⟩
end Go.Proofs.Ytecmfpgccmmlpaa

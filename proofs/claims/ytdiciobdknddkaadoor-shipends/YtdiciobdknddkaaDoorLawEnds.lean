/- ShipEnds, walked -/
import Derived.Test.YtdiciobdknddkaaDoorN
namespace Go.Proofs.YtdiciobdknddkaaDoor
open Go.RowKit
set_option linter.unusedVariables false
theorem start_good {n ot : Int} (h : 1 ≤ ot ∧ ot ≤ 1024 ∧ ¬ ot = n) : Good 0 [⟨ot, 3⟩] := ⟨by show 0 < ot; omega, h.2.1, by show 0 < ot; omega, by show (3 : Int) < 7; decide, by show (3 : Int) ≠ 0; decide, trivial⟩
theorem seen0 : Seen [0] 0 := ⟨by decide, fun x hx => by rw [List.mem_singleton.1 hx]; exact ⟨by unfold u8B; omega, Nat.le_refl _⟩⟩
theorem start_seen {n ot : Int} (h : 1 ≤ ot ∧ ot ≤ 1024 ∧ ¬ ot = n) : Seen [0] (stL [⟨ot, 3⟩] n) := by
  unfold stL stL
  rw [if_neg (by exact h.2.2)]
  exact seen0
theorem start_b {w w1 W0 : World} (hW : w1.alloc (.cells #[.int .u8 0] 22) = W0) (hb : Below w.heap.size w w1) (hT : Tab w1) : SeenAt W0 w.heap.size w1.heap.size 1 [0] ∧ Below w.heap.size w W0 ∧ Tab W0 := by
  subst hW
  exact ⟨⟨rfl, .inr ⟨w1.heap.size, 1, #[.int .u8 0], rfl, hb.size, heap_alloc_new _ _, Nat.le_refl _, by decide, rfl, rfl⟩⟩, hb.alloc hb.size _, hT.below' ((Below.refl _ _).alloc (Nat.le_refl _) _)⟩
theorem start_a {w w1 W0 : World} {n ot : Int} (hW : (w1.alloc (.cells #[.int .i64 ot, .int .u8 3] 42)).alloc (.cells #[.int .u8 0] 22) = W0) (h : 1 ≤ ot ∧ ot ≤ 1024 ∧ ¬ ot = n) (hb : Below w.heap.size w w1) (hT : Tab w1) : IsH W0 (some ⟨w1.heap.size, 0, none⟩) 1 1 [⟨ot, 3⟩] ∧ SeenAt W0 w.heap.size (w1.heap.size + 1) 1 [0] ∧ Below w.heap.size w W0 ∧ Tab W0 := by
  have h1 : (w1.alloc (.cells #[.int .i64 ot, .int .u8 3] 42)).heap.size = w1.heap.size + 1 := by simp
  have h2 : Below w1.heap.size w1 (w1.alloc (.cells #[.int .i64 ot, .int .u8 3] 42)) := (Below.refl _ _).alloc (Nat.le_refl _) _
  have h3 := start_b hW (hb.trans (h2.mono hb.size)) (hT.below' h2)
  rw [h1] at h3
  refine ⟨⟨rfl, Nat.le_refl _, by decide, ?_, fun i hi => ⟨w1.heap.size, 0, rfl, ?_, ?_⟩, by intro e; cases e⟩, h3⟩
  · intro x hx
    rw [List.mem_singleton.1 hx]
    unfold okS i64B u8B
    exact ⟨⟨by show _ ≤ ot; omega, by show ot ≤ _; omega⟩, by show (0 : Int) ≤ 3; decide, by show (3 : Int) ≤ 255; decide⟩
  · subst hW; simp; omega
  · obtain rfl : i = 0 := by omega
    subst hW
    exact ⟨by simp, by simp⟩
set_option maxRecDepth 40000 in
set_option maxHeartbeats 4000000 in
theorem endsA (a0 : Option Addr) (len0 cap0 : Nat) (ms : List Int) (a1 : Option Addr) (len1 cap1 : Nat) (vs : List Int) (n ot : Int) (w : World) (hT : Tab w) (hm : IsB w a0 len0 cap0 ms) (hl0 : len0 * 1 ≤ 140737488355328) (hv : IsB w a1 len1 cap1 vs) (hl1 : len1 * 1 ≤ 140737488355328) (hot : 1 ≤ ot ∧ ot ≤ 1024 ∧ ¬ ot = n) : Calls Tryd.prog 5 #[.slice a0 len0 cap0, .slice a1 len1 cap1, .int .i64 n, .int .i64 ot] w fun e w' => e = .returned (.bool true) ∧ Below w.heap.size w w' := by
  have HOT := hide hot
  have ho1 := hot.1
  have ho2 := hot.2.1
  have ho3 := hot.2.2
  have ho4 : (ot != n) = true := by simpa using ho3
  clear hot
  have HT := hide hT
  have HM := hide hm
  have HVS := hide hv
  have HL := hide lives_at
  have hcap0 := hm.2.1
  have hcm0 : cap0 ≤ 9223372036854775807 := hm.2.2.1
  have hcap1 := hv.2.1
  have hcm1 : cap1 ≤ 9223372036854775807 := hv.2.2.1
  clear hT hm hv hl0 hl1
  go_enter Tryd.func5, Tryd.ntmps5
  go_wp2_with fail
  refine (HL.out w HT.out).mono ?_
  rintro e w1 ⟨rfl, B1⟩
  go_wp2
  generalize hW : (w1.alloc (.cells #[.int .i64 ot, .int .u8 3] 42)).alloc (.cells #[.int .u8 0] 22) = W0
  have HW0 : Hid (IsH W0 (some ⟨w1.heap.size, 0, none⟩) 1 1 [⟨ot, 3⟩] ∧ SeenAt W0 w.heap.size (w1.heap.size + 1) 1 [0] ∧ Below w.heap.size w W0 ∧ Tab W0) := hide (start_a hW HOT.out B1.out.1 B1.out.2)
  clear hW
  clear ho1 ho2 ho3 ho4
  go_loopw [9, 10, 41] (fun lv sv i wr => ∃ (k : Nat) (a : Option Addr) (kk c : Nat) (l : List Sh) (g cp : Nat) (zs : List Int), k ≤ len0 ∧ i = .int .i64 k ∧ lv = .slice a kk c ∧ sv = .slice (some ⟨g, 0, none⟩) zs.length cp ∧ Hid (IsH wr a kk c l ∧ Good 0 l ∧ Seen zs (stL l n) ∧ stL l ot = 3) ∧ Hid (SeenAt wr w.heap.size g cp zs ∧ ∀ b off, a = some ⟨b, off, none⟩ → b ≠ g) ∧ Hid (Below w.heap.size w wr ∧ Tab wr)) (fun _ _ i _ => len0 - (intOf i).toNat)
  case atStart => exact ⟨0, some ⟨w1.heap.size, 0, none⟩, 1, 1, [⟨ot, 3⟩], w1.heap.size + 1, 1, [0], by omega, rfl, rfl, rfl, hide ⟨HW0.out.1, start_good HOT.out, start_seen HOT.out, by simp [stL]⟩, hide ⟨HW0.out.2.1, by intro b off e; cases e; omega⟩, hide HW0.out.2.2⟩
  case round =>
    obtain ⟨k, a, kk, c, l, g, cp, zs, hk, rfl, rfl, rfl, HA, HS, HW⟩ := hrel
    by_cases hlt : k < len0
    · obtain ⟨bm, om, rfl, hbm, z0⟩ := (HM.out.below HW.out.1).2.2.2.2 k hlt
      have HUM : Hid (u8B (ms.getD k 0)) := hide (HM.out.2.2.2.1 _ (getD_mem (by rw [HM.out.1]; exact hlt)))
      generalize ms.getD k 0 = m at *
      obtain ⟨v, hv⟩ : ∃ v : Int, (k < len1 → ∃ bv ov, a1 = some ⟨bv, ov, none⟩ ∧ wr.cell? ⟨bv, ov + k, none⟩ = some (.int .u8 v)) ∧ (¬ k < len1 → v = 0) := by
        by_cases h1 : k < len1
        · obtain ⟨bv, ov, e, _, hc⟩ := (HVS.out.below HW.out.1).2.2.2.2 k h1
          exact ⟨vs.getD k 0, fun _ => ⟨bv, ov, e, hc⟩, fun h => absurd h1 h⟩
        · exact ⟨0, fun h => absurd h h1, fun _ => rfl⟩
      have HV2 := hide hv
      clear hv
      generalize hr : moveR l n m v = R
      obtain ⟨l', er⟩ := R
      have HR := hide hr
      have HMO := hide (fun W (t : Tab W) (i : IsH W a kk c l) => move_new hr rfl a kk c W t i HUM.out)
      clear hr
      have hk1 : (k : Int) < (len0 : Int) := by omega
      have STEP : Hid (Calls Tryd.prog 15 #[.slice a kk c, .int .i64 n, .int .u8 m, .int .u8 v] wr fun e w' => ∃ a' c', e = .returned (.tuple #[.slice a' l'.length c', .int .i64 er]) ∧ Hid (IsH w' a' l'.length c' l' ∧ NewA wr.heap.size a') ∧ Hid (Below wr.heap.size wr w' ∧ Tab w')) := hide (HMO.out wr HW.out.2 HA.out.1)
      clear HMO
      by_cases h1 : k < len1
      case' pos =>
        obtain ⟨bv, ov, rfl, hcv⟩ := HV2.out.1 h1
        have h1i : (k : Int) < (len1 : Int) := by omega
      case' neg =>
        have h1i : ¬ (k : Int) < (len1 : Int) := by omega
        obtain rfl := HV2.out.2 h1
      all_goals
        go_wp2_with fail
        refine STEP.out.mono ?_
        rintro e w2 ⟨a2, c2, rfl, H2, B2⟩
        have HB2 : Hid (Below w.heap.size w w2) := hide (HW.out.1.trans (B2.out.1.mono HW.out.1.size))
        have HS2 := hide (HS.out.1.below B2.out.1)
        clear STEP HV2 h1 h1i
        by_cases her : er = 0
        · subst her
          have HD := hide (move_done HR.out rfl)
          have HMK : Hid (mk (stL l n) m ≠ 0) := hide HD.out.2.2.2.2.1
          have HON := hide (HA.out.2.2.1.on HMK.out)
          have HST : Hid (stL l' n = mk (stL l n) m) := hide (by rw [HD.out.2.2.2.1, ins_st, if_pos rfl])
          have HO3 : Hid (stL l' ot = 3) := hide (by rw [HD.out.2.2.2.1, ins_st, if_neg (by exact HOT.out.2.2)]; exact HA.out.2.2.2)
          have HOF : Hid (ofR l' n = (mk (stL l n) m, 0)) := hide (by rw [ofR_good HD.out.2.2.1 HD.out.2.1, HST.out])
          have HCK : Hid (checkE l' = 0) := hide (checkE_good HD.out.2.2.1)
          generalize mk (stL l n) m = s at *
          have hz5 : ¬ (5 : Int) < (zs.length : Int) := by have := HON.out.1; omega
          have hzl : (zs.length : Int) ≤ 5 := by have := HON.out.1; omega
          go_wp2_with fail
          refine (of_at HOF.out a2 _ c2 w2 B2.out.2 H2.out.1).mono ?_
          rintro e w3 ⟨rfl, B3⟩
          go_wp2_with fail
          refine (check_at HCK.out a2 _ c2 w3 B3.out.2 (H2.out.1.below' B3.out.1)).mono ?_
          rintro e w4 ⟨rfl, B4⟩
          have HB4 : Hid (Below w.heap.size w w4) := hide (HB2.out.trans ((B3.out.1.trans (B4.out.1.mono B3.out.1.size)).mono HB2.out.size))
          have HS4 := hide ((HS2.out.below B3.out.1).below B4.out.1)
          have HI4 := hide ((H2.out.1.below' B3.out.1).below' B4.out.1)
          have HNE : Hid (∀ b off, a2 = some ⟨b, off, none⟩ → b ≠ g) := hide (fun b off e => by have := H2.out.2 b off e; have := HS.out.1.lt; omega)
          clear HOF HCK
          go_wp2
          go_loopw [88] (fun i wq => ∃ j : Nat, j ≤ zs.length ∧ i = .int .i64 j ∧ wq = w4) (fun i _ => zs.length - (intOf i).toNat)
          case atStart => exact ⟨0, by omega, rfl, rfl⟩
          case round =>
            obtain ⟨j, hj, rfl, hw⟩ := hrel
            obtain rfl := hw.symm
            clear hw
            by_cases hjl : j < zs.length
            · have hc := HS4.out.cell j hjl
              have hx := HON.out.2.1 _ (getD_mem (d := (0 : Int)) hjl)
              have HU := hide ((HA.out.2.2.1.2 _ (getD_mem (d := (0 : Int)) hjl)).1)
              generalize zs.getD j 0 = x at *
              have hxs : ¬ x = s := hx.1
              have HEN := hide (ends_any x HU.out w4 B4.out.2)
              rw [hx.2] at HEN
              clear hx
              have hjI : (j : Int) < (zs.length : Int) := by omega
              go_wp2_with (first | (go_at_call 13; refine HEN.out.mono ?_; rintro e w' ⟨rfl, he'⟩; obtain rfl := he'.symm; clear he'))
              go_roundw
              case rel => exact ⟨j + 1, by omega, by simp, by trivial⟩
              case measure => simp [intOf]; omega
            · obtain rfl : j = zs.length := by omega
              have hqc : (w4.alloc (.cells #[.int .u8 s] 22)).cell? ⟨w4.heap.size, 0, none⟩ = some (.int .u8 s) := by simp
              have HS5 : Hid (SeenAt (w4.alloc (.cells #[.int .u8 s] 22)) w.heap.size g cp zs) := hide (World.ownsRow.alloc HS4.out _)
              have HB5 : Hid (Below w.heap.size w (w4.alloc (.cells #[.int .u8 s] 22))) := hide (HB4.out.alloc HB4.out.size _)
              have HBX : Hid (Below w4.heap.size w4 (w4.alloc (.cells #[.int .u8 s] 22))) := hide ((Below.refl _ _).alloc (Nat.le_refl _) _)
              have HQC := hide hqc
              clear hqc
              go_wp2_with (at_builtin; refine wpList_push rfl _ _ rfl w.heap.size g cp zs s w4.heap.size rfl HS5.out rfl HQC.out (by have := HON.out.1; omega) HB5.out.size ?_; intro g' cp' w6 HG6)
              go_roundw
              case rel => exact ⟨k + 1, a2, l'.length, c2, l', g', cp', zs ++ [s], by omega, by simp, rfl, by simp, hide ⟨(HI4.out.below' HBX.out).grown HG6.out.2.1 HNE.out, HD.out.2.2.1, by rw [HST.out]; exact HON.out.2.2, HO3.out⟩, hide ⟨HG6.out.1, fun b off e => by
                rcases HG6.out.2.2 with rfl | rfl
                · exact HNE.out b off e
                · intro eb
                  have h0 := HI4.out.lt b off e
                  have := ins_pos l ⟨n, s⟩
                  rw [← HD.out.2.2.2.1] at this
                  have := h0 this
                  simp at eb
                  omega⟩, hide ⟨HB5.out.grown HG6.out.2.1 HB5.out.size (fun q hq => by cases hq; exact HS.out.1.lt.1), (B4.out.2.below' HBX.out).below (Nat.lt_of_lt_of_le HT.out.1 (Nat.le_refl _)) ((Below.refl w.heap.size _).grown HG6.out.2.1 HB5.out.size (fun q hq => by cases hq; exact HS.out.1.lt.1))⟩⟩
              case measure => simp [intOf]; omega
        · have hl0 := move_refused HR.out her
          subst hl0
          simp only [List.length_nil]
          go_wp2
          go_roundw
          case rel => exact ⟨k + 1, a, kk, c, l, g, cp, zs, by omega, by simp, rfl, rfl, hide ⟨HA.out.1.below' B2.out.1, HA.out.2⟩, hide ⟨HS2.out, HS.out.2⟩, hide ⟨HB2.out, B2.out.2⟩⟩
          case measure => simp [intOf]; omega
    · obtain rfl : k = len0 := by omega
      have HOF : Hid (ofR l ot = (3, 0)) := hide (by rw [ofR_good HA.out.2.1 (orB_iff.2 ⟨HOT.out.1, HOT.out.2.1⟩), HA.out.2.2.2])
      have HKK : Hid (¬ kk = 0) := hide (fun h0 => by
        have h2 := HA.out.2.2.2
        rw [List.length_eq_zero_iff.1 (HA.out.1.1.trans h0)] at h2
        exact absurd (show (0 : Int) = 3 from h2) (by decide))
      have hkk : ¬ (kk : Int) = 0 := by have := HKK.out; omega
      have hkb : ((kk : Int) == 0) = false := by simpa using HKK.out
      have hkd : decide ((kk : Int) = 0) = false := decide_eq_false hkk
      have hkn : ¬ kk = 0 := HKK.out
      have ho1 := HOT.out.1
      have ho2 := HOT.out.2.1
      have ho3 := HOT.out.2.2
      have ho4 : ¬ ot < 1 := by omega
      have ho5 : ¬ 1024 < ot := by omega
      go_wp2_with fail
      refine (of_at HOF.out a kk c wr HW.out.2 HA.out.1).mono ?_
      rintro e w3 ⟨rfl, B3⟩
      go_wp2
      go_ret
      exact ⟨rfl, HW.out.1.trans (B3.out.1.mono HW.out.1.size)⟩
set_option maxRecDepth 40000 in
set_option maxHeartbeats 4000000 in
theorem endsB (a0 : Option Addr) (len0 cap0 : Nat) (ms : List Int) (a1 : Option Addr) (len1 cap1 : Nat) (vs : List Int) (n ot : Int) (w : World) (hT : Tab w) (hm : IsB w a0 len0 cap0 ms) (hl0 : len0 * 1 ≤ 140737488355328) (hv : IsB w a1 len1 cap1 vs) (hl1 : len1 * 1 ≤ 140737488355328) (hot : ¬ (1 ≤ ot ∧ ot ≤ 1024 ∧ ¬ ot = n)) : Calls Tryd.prog 5 #[.slice a0 len0 cap0, .slice a1 len1 cap1, .int .i64 n, .int .i64 ot] w fun e w' => e = .returned (.bool true) ∧ Below w.heap.size w w' := by
  rcases (by omega : ot < 1 ∨ 1024 < ot ∨ (1 ≤ ot ∧ ot ≤ 1024 ∧ ot = n)) with hc | hc | hc
  · have hc1 : ¬ 1 ≤ ot := by omega
    have HT := hide hT
    have HM := hide hm
    have HVS := hide hv
    have HL := hide lives_at
    have hcap0 := hm.2.1
    have hcm0 : cap0 ≤ 9223372036854775807 := hm.2.2.1
    have hcap1 := hv.2.1
    have hcm1 : cap1 ≤ 9223372036854775807 := hv.2.2.1
    clear hT hm hv hl0 hl1
    clear hot
    go_enter Tryd.func5, Tryd.ntmps5
    go_wp2_with fail
    refine (HL.out w HT.out).mono ?_
    rintro e w1 ⟨rfl, B1⟩
    go_wp2
    generalize hW : w1.alloc (.cells #[.int .u8 0] 22) = W0
    have HW0 : Hid (SeenAt W0 w.heap.size w1.heap.size 1 [0] ∧ Below w.heap.size w W0 ∧ Tab W0) := hide (start_b hW B1.out.1 B1.out.2)
    clear hW
    go_loopw [9, 10, 41] (fun lv sv i wr => ∃ (k : Nat) (a : Option Addr) (kk c : Nat) (l : List Sh) (g cp : Nat) (zs : List Int), k ≤ len0 ∧ i = .int .i64 k ∧ lv = .slice a kk c ∧ sv = .slice (some ⟨g, 0, none⟩) zs.length cp ∧ Hid (IsH wr a kk c l ∧ Good 0 l ∧ Seen zs (stL l n) ∧ True) ∧ Hid (SeenAt wr w.heap.size g cp zs ∧ ∀ b off, a = some ⟨b, off, none⟩ → b ≠ g) ∧ Hid (Below w.heap.size w wr ∧ Tab wr)) (fun _ _ i _ => len0 - (intOf i).toNat)
    case atStart => exact ⟨0, none, 0, 0, [], w1.heap.size, 1, [0], by omega, rfl, rfl, rfl, hide ⟨isH_nil _, trivial, seen0, trivial⟩, hide ⟨HW0.out.1, by intro b off e; cases e⟩, hide HW0.out.2⟩
    case round =>
      obtain ⟨k, a, kk, c, l, g, cp, zs, hk, rfl, rfl, rfl, HA, HS, HW⟩ := hrel
      by_cases hlt : k < len0
      · obtain ⟨bm, om, rfl, hbm, z0⟩ := (HM.out.below HW.out.1).2.2.2.2 k hlt
        have HUM : Hid (u8B (ms.getD k 0)) := hide (HM.out.2.2.2.1 _ (getD_mem (by rw [HM.out.1]; exact hlt)))
        generalize ms.getD k 0 = m at *
        obtain ⟨v, hv⟩ : ∃ v : Int, (k < len1 → ∃ bv ov, a1 = some ⟨bv, ov, none⟩ ∧ wr.cell? ⟨bv, ov + k, none⟩ = some (.int .u8 v)) ∧ (¬ k < len1 → v = 0) := by
          by_cases h1 : k < len1
          · obtain ⟨bv, ov, e, _, hc⟩ := (HVS.out.below HW.out.1).2.2.2.2 k h1
            exact ⟨vs.getD k 0, fun _ => ⟨bv, ov, e, hc⟩, fun h => absurd h1 h⟩
          · exact ⟨0, fun h => absurd h h1, fun _ => rfl⟩
        have HV2 := hide hv
        clear hv
        generalize hr : moveR l n m v = R
        obtain ⟨l', er⟩ := R
        have HR := hide hr
        have HMO := hide (fun W (t : Tab W) (i : IsH W a kk c l) => move_new hr rfl a kk c W t i HUM.out)
        clear hr
        have hk1 : (k : Int) < (len0 : Int) := by omega
        have STEP : Hid (Calls Tryd.prog 15 #[.slice a kk c, .int .i64 n, .int .u8 m, .int .u8 v] wr fun e w' => ∃ a' c', e = .returned (.tuple #[.slice a' l'.length c', .int .i64 er]) ∧ Hid (IsH w' a' l'.length c' l' ∧ NewA wr.heap.size a') ∧ Hid (Below wr.heap.size wr w' ∧ Tab w')) := hide (HMO.out wr HW.out.2 HA.out.1)
        clear HMO
        by_cases h1 : k < len1
        case' pos =>
          obtain ⟨bv, ov, rfl, hcv⟩ := HV2.out.1 h1
          have h1i : (k : Int) < (len1 : Int) := by omega
        case' neg =>
          have h1i : ¬ (k : Int) < (len1 : Int) := by omega
          obtain rfl := HV2.out.2 h1
        all_goals
          go_wp2_with fail
          refine STEP.out.mono ?_
          rintro e w2 ⟨a2, c2, rfl, H2, B2⟩
          have HB2 : Hid (Below w.heap.size w w2) := hide (HW.out.1.trans (B2.out.1.mono HW.out.1.size))
          have HS2 := hide (HS.out.1.below B2.out.1)
          clear STEP HV2 h1 h1i
          by_cases her : er = 0
          · subst her
            have HD := hide (move_done HR.out rfl)
            have HMK : Hid (mk (stL l n) m ≠ 0) := hide HD.out.2.2.2.2.1
            have HON := hide (HA.out.2.2.1.on HMK.out)
            have HST : Hid (stL l' n = mk (stL l n) m) := hide (by rw [HD.out.2.2.2.1, ins_st, if_pos rfl])
            have HOF : Hid (ofR l' n = (mk (stL l n) m, 0)) := hide (by rw [ofR_good HD.out.2.2.1 HD.out.2.1, HST.out])
            have HCK : Hid (checkE l' = 0) := hide (checkE_good HD.out.2.2.1)
            generalize mk (stL l n) m = s at *
            have hz5 : ¬ (5 : Int) < (zs.length : Int) := by have := HON.out.1; omega
            have hzl : (zs.length : Int) ≤ 5 := by have := HON.out.1; omega
            go_wp2_with fail
            refine (of_at HOF.out a2 _ c2 w2 B2.out.2 H2.out.1).mono ?_
            rintro e w3 ⟨rfl, B3⟩
            go_wp2_with fail
            refine (check_at HCK.out a2 _ c2 w3 B3.out.2 (H2.out.1.below' B3.out.1)).mono ?_
            rintro e w4 ⟨rfl, B4⟩
            have HB4 : Hid (Below w.heap.size w w4) := hide (HB2.out.trans ((B3.out.1.trans (B4.out.1.mono B3.out.1.size)).mono HB2.out.size))
            have HS4 := hide ((HS2.out.below B3.out.1).below B4.out.1)
            have HI4 := hide ((H2.out.1.below' B3.out.1).below' B4.out.1)
            have HNE : Hid (∀ b off, a2 = some ⟨b, off, none⟩ → b ≠ g) := hide (fun b off e => by have := H2.out.2 b off e; have := HS.out.1.lt; omega)
            clear HOF HCK
            go_wp2
            go_loopw [88] (fun i wq => ∃ j : Nat, j ≤ zs.length ∧ i = .int .i64 j ∧ wq = w4) (fun i _ => zs.length - (intOf i).toNat)
            case atStart => exact ⟨0, by omega, rfl, rfl⟩
            case round =>
              obtain ⟨j, hj, rfl, hw⟩ := hrel
              obtain rfl := hw.symm
              clear hw
              by_cases hjl : j < zs.length
              · have hc := HS4.out.cell j hjl
                have hx := HON.out.2.1 _ (getD_mem (d := (0 : Int)) hjl)
                have HU := hide ((HA.out.2.2.1.2 _ (getD_mem (d := (0 : Int)) hjl)).1)
                generalize zs.getD j 0 = x at *
                have hxs : ¬ x = s := hx.1
                have HEN := hide (ends_any x HU.out w4 B4.out.2)
                rw [hx.2] at HEN
                clear hx
                have hjI : (j : Int) < (zs.length : Int) := by omega
                go_wp2_with (first | (go_at_call 13; refine HEN.out.mono ?_; rintro e w' ⟨rfl, he'⟩; obtain rfl := he'.symm; clear he'))
                go_roundw
                case rel => exact ⟨j + 1, by omega, by simp, by trivial⟩
                case measure => simp [intOf]; omega
              · obtain rfl : j = zs.length := by omega
                have hqc : (w4.alloc (.cells #[.int .u8 s] 22)).cell? ⟨w4.heap.size, 0, none⟩ = some (.int .u8 s) := by simp
                have HS5 : Hid (SeenAt (w4.alloc (.cells #[.int .u8 s] 22)) w.heap.size g cp zs) := hide (World.ownsRow.alloc HS4.out _)
                have HB5 : Hid (Below w.heap.size w (w4.alloc (.cells #[.int .u8 s] 22))) := hide (HB4.out.alloc HB4.out.size _)
                have HBX : Hid (Below w4.heap.size w4 (w4.alloc (.cells #[.int .u8 s] 22))) := hide ((Below.refl _ _).alloc (Nat.le_refl _) _)
                have HQC := hide hqc
                clear hqc
                go_wp2_with (at_builtin; refine wpList_push rfl _ _ rfl w.heap.size g cp zs s w4.heap.size rfl HS5.out rfl HQC.out (by have := HON.out.1; omega) HB5.out.size ?_; intro g' cp' w6 HG6)
                go_roundw
                case rel => exact ⟨k + 1, a2, l'.length, c2, l', g', cp', zs ++ [s], by omega, by simp, rfl, by simp, hide ⟨(HI4.out.below' HBX.out).grown HG6.out.2.1 HNE.out, HD.out.2.2.1, by rw [HST.out]; exact HON.out.2.2, trivial⟩, hide ⟨HG6.out.1, fun b off e => by
                  rcases HG6.out.2.2 with rfl | rfl
                  · exact HNE.out b off e
                  · intro eb
                    have h0 := HI4.out.lt b off e
                    have := ins_pos l ⟨n, s⟩
                    rw [← HD.out.2.2.2.1] at this
                    have := h0 this
                    simp at eb
                    omega⟩, hide ⟨HB5.out.grown HG6.out.2.1 HB5.out.size (fun q hq => by cases hq; exact HS.out.1.lt.1), (B4.out.2.below' HBX.out).below (Nat.lt_of_lt_of_le HT.out.1 (Nat.le_refl _)) ((Below.refl w.heap.size _).grown HG6.out.2.1 HB5.out.size (fun q hq => by cases hq; exact HS.out.1.lt.1))⟩⟩
                case measure => simp [intOf]; omega
          · have hl0 := move_refused HR.out her
            subst hl0
            simp only [List.length_nil]
            go_wp2
            go_roundw
            case rel => exact ⟨k + 1, a, kk, c, l, g, cp, zs, by omega, by simp, rfl, rfl, hide ⟨HA.out.1.below' B2.out.1, HA.out.2⟩, hide ⟨HS2.out, HS.out.2⟩, hide ⟨HB2.out, B2.out.2⟩⟩
            case measure => simp [intOf]; omega
      · obtain rfl : k = len0 := by omega
        by_cases hkk : (kk : Int) = 0
        · obtain rfl : kk = 0 := by omega
          go_wp2
          go_ret
          exact ⟨rfl, HW.out.1⟩
        · go_wp2
          all_goals go_ret
          all_goals exact ⟨rfl, HW.out.1⟩
  · have hc1 : ¬ ot < 1 := by omega
    have hc2 : 1 ≤ ot := by omega
    have hc3 : ¬ ot ≤ 1024 := by omega
    have HT := hide hT
    have HM := hide hm
    have HVS := hide hv
    have HL := hide lives_at
    have hcap0 := hm.2.1
    have hcm0 : cap0 ≤ 9223372036854775807 := hm.2.2.1
    have hcap1 := hv.2.1
    have hcm1 : cap1 ≤ 9223372036854775807 := hv.2.2.1
    clear hT hm hv hl0 hl1
    clear hot
    go_enter Tryd.func5, Tryd.ntmps5
    go_wp2_with fail
    refine (HL.out w HT.out).mono ?_
    rintro e w1 ⟨rfl, B1⟩
    go_wp2
    generalize hW : w1.alloc (.cells #[.int .u8 0] 22) = W0
    have HW0 : Hid (SeenAt W0 w.heap.size w1.heap.size 1 [0] ∧ Below w.heap.size w W0 ∧ Tab W0) := hide (start_b hW B1.out.1 B1.out.2)
    clear hW
    go_loopw [9, 10, 41] (fun lv sv i wr => ∃ (k : Nat) (a : Option Addr) (kk c : Nat) (l : List Sh) (g cp : Nat) (zs : List Int), k ≤ len0 ∧ i = .int .i64 k ∧ lv = .slice a kk c ∧ sv = .slice (some ⟨g, 0, none⟩) zs.length cp ∧ Hid (IsH wr a kk c l ∧ Good 0 l ∧ Seen zs (stL l n) ∧ True) ∧ Hid (SeenAt wr w.heap.size g cp zs ∧ ∀ b off, a = some ⟨b, off, none⟩ → b ≠ g) ∧ Hid (Below w.heap.size w wr ∧ Tab wr)) (fun _ _ i _ => len0 - (intOf i).toNat)
    case atStart => exact ⟨0, none, 0, 0, [], w1.heap.size, 1, [0], by omega, rfl, rfl, rfl, hide ⟨isH_nil _, trivial, seen0, trivial⟩, hide ⟨HW0.out.1, by intro b off e; cases e⟩, hide HW0.out.2⟩
    case round =>
      obtain ⟨k, a, kk, c, l, g, cp, zs, hk, rfl, rfl, rfl, HA, HS, HW⟩ := hrel
      by_cases hlt : k < len0
      · obtain ⟨bm, om, rfl, hbm, z0⟩ := (HM.out.below HW.out.1).2.2.2.2 k hlt
        have HUM : Hid (u8B (ms.getD k 0)) := hide (HM.out.2.2.2.1 _ (getD_mem (by rw [HM.out.1]; exact hlt)))
        generalize ms.getD k 0 = m at *
        obtain ⟨v, hv⟩ : ∃ v : Int, (k < len1 → ∃ bv ov, a1 = some ⟨bv, ov, none⟩ ∧ wr.cell? ⟨bv, ov + k, none⟩ = some (.int .u8 v)) ∧ (¬ k < len1 → v = 0) := by
          by_cases h1 : k < len1
          · obtain ⟨bv, ov, e, _, hc⟩ := (HVS.out.below HW.out.1).2.2.2.2 k h1
            exact ⟨vs.getD k 0, fun _ => ⟨bv, ov, e, hc⟩, fun h => absurd h1 h⟩
          · exact ⟨0, fun h => absurd h h1, fun _ => rfl⟩
        have HV2 := hide hv
        clear hv
        generalize hr : moveR l n m v = R
        obtain ⟨l', er⟩ := R
        have HR := hide hr
        have HMO := hide (fun W (t : Tab W) (i : IsH W a kk c l) => move_new hr rfl a kk c W t i HUM.out)
        clear hr
        have hk1 : (k : Int) < (len0 : Int) := by omega
        have STEP : Hid (Calls Tryd.prog 15 #[.slice a kk c, .int .i64 n, .int .u8 m, .int .u8 v] wr fun e w' => ∃ a' c', e = .returned (.tuple #[.slice a' l'.length c', .int .i64 er]) ∧ Hid (IsH w' a' l'.length c' l' ∧ NewA wr.heap.size a') ∧ Hid (Below wr.heap.size wr w' ∧ Tab w')) := hide (HMO.out wr HW.out.2 HA.out.1)
        clear HMO
        by_cases h1 : k < len1
        case' pos =>
          obtain ⟨bv, ov, rfl, hcv⟩ := HV2.out.1 h1
          have h1i : (k : Int) < (len1 : Int) := by omega
        case' neg =>
          have h1i : ¬ (k : Int) < (len1 : Int) := by omega
          obtain rfl := HV2.out.2 h1
        all_goals
          go_wp2_with fail
          refine STEP.out.mono ?_
          rintro e w2 ⟨a2, c2, rfl, H2, B2⟩
          have HB2 : Hid (Below w.heap.size w w2) := hide (HW.out.1.trans (B2.out.1.mono HW.out.1.size))
          have HS2 := hide (HS.out.1.below B2.out.1)
          clear STEP HV2 h1 h1i
          by_cases her : er = 0
          · subst her
            have HD := hide (move_done HR.out rfl)
            have HMK : Hid (mk (stL l n) m ≠ 0) := hide HD.out.2.2.2.2.1
            have HON := hide (HA.out.2.2.1.on HMK.out)
            have HST : Hid (stL l' n = mk (stL l n) m) := hide (by rw [HD.out.2.2.2.1, ins_st, if_pos rfl])
            have HOF : Hid (ofR l' n = (mk (stL l n) m, 0)) := hide (by rw [ofR_good HD.out.2.2.1 HD.out.2.1, HST.out])
            have HCK : Hid (checkE l' = 0) := hide (checkE_good HD.out.2.2.1)
            generalize mk (stL l n) m = s at *
            have hz5 : ¬ (5 : Int) < (zs.length : Int) := by have := HON.out.1; omega
            have hzl : (zs.length : Int) ≤ 5 := by have := HON.out.1; omega
            go_wp2_with fail
            refine (of_at HOF.out a2 _ c2 w2 B2.out.2 H2.out.1).mono ?_
            rintro e w3 ⟨rfl, B3⟩
            go_wp2_with fail
            refine (check_at HCK.out a2 _ c2 w3 B3.out.2 (H2.out.1.below' B3.out.1)).mono ?_
            rintro e w4 ⟨rfl, B4⟩
            have HB4 : Hid (Below w.heap.size w w4) := hide (HB2.out.trans ((B3.out.1.trans (B4.out.1.mono B3.out.1.size)).mono HB2.out.size))
            have HS4 := hide ((HS2.out.below B3.out.1).below B4.out.1)
            have HI4 := hide ((H2.out.1.below' B3.out.1).below' B4.out.1)
            have HNE : Hid (∀ b off, a2 = some ⟨b, off, none⟩ → b ≠ g) := hide (fun b off e => by have := H2.out.2 b off e; have := HS.out.1.lt; omega)
            clear HOF HCK
            go_wp2
            go_loopw [88] (fun i wq => ∃ j : Nat, j ≤ zs.length ∧ i = .int .i64 j ∧ wq = w4) (fun i _ => zs.length - (intOf i).toNat)
            case atStart => exact ⟨0, by omega, rfl, rfl⟩
            case round =>
              obtain ⟨j, hj, rfl, hw⟩ := hrel
              obtain rfl := hw.symm
              clear hw
              by_cases hjl : j < zs.length
              · have hc := HS4.out.cell j hjl
                have hx := HON.out.2.1 _ (getD_mem (d := (0 : Int)) hjl)
                have HU := hide ((HA.out.2.2.1.2 _ (getD_mem (d := (0 : Int)) hjl)).1)
                generalize zs.getD j 0 = x at *
                have hxs : ¬ x = s := hx.1
                have HEN := hide (ends_any x HU.out w4 B4.out.2)
                rw [hx.2] at HEN
                clear hx
                have hjI : (j : Int) < (zs.length : Int) := by omega
                go_wp2_with (first | (go_at_call 13; refine HEN.out.mono ?_; rintro e w' ⟨rfl, he'⟩; obtain rfl := he'.symm; clear he'))
                go_roundw
                case rel => exact ⟨j + 1, by omega, by simp, by trivial⟩
                case measure => simp [intOf]; omega
              · obtain rfl : j = zs.length := by omega
                have hqc : (w4.alloc (.cells #[.int .u8 s] 22)).cell? ⟨w4.heap.size, 0, none⟩ = some (.int .u8 s) := by simp
                have HS5 : Hid (SeenAt (w4.alloc (.cells #[.int .u8 s] 22)) w.heap.size g cp zs) := hide (World.ownsRow.alloc HS4.out _)
                have HB5 : Hid (Below w.heap.size w (w4.alloc (.cells #[.int .u8 s] 22))) := hide (HB4.out.alloc HB4.out.size _)
                have HBX : Hid (Below w4.heap.size w4 (w4.alloc (.cells #[.int .u8 s] 22))) := hide ((Below.refl _ _).alloc (Nat.le_refl _) _)
                have HQC := hide hqc
                clear hqc
                go_wp2_with (at_builtin; refine wpList_push rfl _ _ rfl w.heap.size g cp zs s w4.heap.size rfl HS5.out rfl HQC.out (by have := HON.out.1; omega) HB5.out.size ?_; intro g' cp' w6 HG6)
                go_roundw
                case rel => exact ⟨k + 1, a2, l'.length, c2, l', g', cp', zs ++ [s], by omega, by simp, rfl, by simp, hide ⟨(HI4.out.below' HBX.out).grown HG6.out.2.1 HNE.out, HD.out.2.2.1, by rw [HST.out]; exact HON.out.2.2, trivial⟩, hide ⟨HG6.out.1, fun b off e => by
                  rcases HG6.out.2.2 with rfl | rfl
                  · exact HNE.out b off e
                  · intro eb
                    have h0 := HI4.out.lt b off e
                    have := ins_pos l ⟨n, s⟩
                    rw [← HD.out.2.2.2.1] at this
                    have := h0 this
                    simp at eb
                    omega⟩, hide ⟨HB5.out.grown HG6.out.2.1 HB5.out.size (fun q hq => by cases hq; exact HS.out.1.lt.1), (B4.out.2.below' HBX.out).below (Nat.lt_of_lt_of_le HT.out.1 (Nat.le_refl _)) ((Below.refl w.heap.size _).grown HG6.out.2.1 HB5.out.size (fun q hq => by cases hq; exact HS.out.1.lt.1))⟩⟩
                case measure => simp [intOf]; omega
          · have hl0 := move_refused HR.out her
            subst hl0
            simp only [List.length_nil]
            go_wp2
            go_roundw
            case rel => exact ⟨k + 1, a, kk, c, l, g, cp, zs, by omega, by simp, rfl, rfl, hide ⟨HA.out.1.below' B2.out.1, HA.out.2⟩, hide ⟨HS2.out, HS.out.2⟩, hide ⟨HB2.out, B2.out.2⟩⟩
            case measure => simp [intOf]; omega
      · obtain rfl : k = len0 := by omega
        by_cases hkk : (kk : Int) = 0
        · obtain rfl : kk = 0 := by omega
          go_wp2
          go_ret
          exact ⟨rfl, HW.out.1⟩
        · go_wp2
          all_goals go_ret
          all_goals exact ⟨rfl, HW.out.1⟩
  · obtain ⟨hc2, hc3, hc6⟩ := hc
    obtain rfl : n = ot := hc6.symm
    clear hc6
    have hc4 : ¬ n < 1 := by omega
    have hc5 : ¬ 1024 < n := by omega
    have HT := hide hT
    have HM := hide hm
    have HVS := hide hv
    have HL := hide lives_at
    have hcap0 := hm.2.1
    have hcm0 : cap0 ≤ 9223372036854775807 := hm.2.2.1
    have hcap1 := hv.2.1
    have hcm1 : cap1 ≤ 9223372036854775807 := hv.2.2.1
    clear hT hm hv hl0 hl1
    clear hot
    go_enter Tryd.func5, Tryd.ntmps5
    go_wp2_with fail
    refine (HL.out w HT.out).mono ?_
    rintro e w1 ⟨rfl, B1⟩
    go_wp2
    generalize hW : w1.alloc (.cells #[.int .u8 0] 22) = W0
    have HW0 : Hid (SeenAt W0 w.heap.size w1.heap.size 1 [0] ∧ Below w.heap.size w W0 ∧ Tab W0) := hide (start_b hW B1.out.1 B1.out.2)
    clear hW
    go_loopw [9, 10, 41] (fun lv sv i wr => ∃ (k : Nat) (a : Option Addr) (kk c : Nat) (l : List Sh) (g cp : Nat) (zs : List Int), k ≤ len0 ∧ i = .int .i64 k ∧ lv = .slice a kk c ∧ sv = .slice (some ⟨g, 0, none⟩) zs.length cp ∧ Hid (IsH wr a kk c l ∧ Good 0 l ∧ Seen zs (stL l n) ∧ True) ∧ Hid (SeenAt wr w.heap.size g cp zs ∧ ∀ b off, a = some ⟨b, off, none⟩ → b ≠ g) ∧ Hid (Below w.heap.size w wr ∧ Tab wr)) (fun _ _ i _ => len0 - (intOf i).toNat)
    case atStart => exact ⟨0, none, 0, 0, [], w1.heap.size, 1, [0], by omega, rfl, rfl, rfl, hide ⟨isH_nil _, trivial, seen0, trivial⟩, hide ⟨HW0.out.1, by intro b off e; cases e⟩, hide HW0.out.2⟩
    case round =>
      obtain ⟨k, a, kk, c, l, g, cp, zs, hk, rfl, rfl, rfl, HA, HS, HW⟩ := hrel
      by_cases hlt : k < len0
      · obtain ⟨bm, om, rfl, hbm, z0⟩ := (HM.out.below HW.out.1).2.2.2.2 k hlt
        have HUM : Hid (u8B (ms.getD k 0)) := hide (HM.out.2.2.2.1 _ (getD_mem (by rw [HM.out.1]; exact hlt)))
        generalize ms.getD k 0 = m at *
        obtain ⟨v, hv⟩ : ∃ v : Int, (k < len1 → ∃ bv ov, a1 = some ⟨bv, ov, none⟩ ∧ wr.cell? ⟨bv, ov + k, none⟩ = some (.int .u8 v)) ∧ (¬ k < len1 → v = 0) := by
          by_cases h1 : k < len1
          · obtain ⟨bv, ov, e, _, hc⟩ := (HVS.out.below HW.out.1).2.2.2.2 k h1
            exact ⟨vs.getD k 0, fun _ => ⟨bv, ov, e, hc⟩, fun h => absurd h1 h⟩
          · exact ⟨0, fun h => absurd h h1, fun _ => rfl⟩
        have HV2 := hide hv
        clear hv
        generalize hr : moveR l n m v = R
        obtain ⟨l', er⟩ := R
        have HR := hide hr
        have HMO := hide (fun W (t : Tab W) (i : IsH W a kk c l) => move_new hr rfl a kk c W t i HUM.out)
        clear hr
        have hk1 : (k : Int) < (len0 : Int) := by omega
        have STEP : Hid (Calls Tryd.prog 15 #[.slice a kk c, .int .i64 n, .int .u8 m, .int .u8 v] wr fun e w' => ∃ a' c', e = .returned (.tuple #[.slice a' l'.length c', .int .i64 er]) ∧ Hid (IsH w' a' l'.length c' l' ∧ NewA wr.heap.size a') ∧ Hid (Below wr.heap.size wr w' ∧ Tab w')) := hide (HMO.out wr HW.out.2 HA.out.1)
        clear HMO
        by_cases h1 : k < len1
        case' pos =>
          obtain ⟨bv, ov, rfl, hcv⟩ := HV2.out.1 h1
          have h1i : (k : Int) < (len1 : Int) := by omega
        case' neg =>
          have h1i : ¬ (k : Int) < (len1 : Int) := by omega
          obtain rfl := HV2.out.2 h1
        all_goals
          go_wp2_with fail
          refine STEP.out.mono ?_
          rintro e w2 ⟨a2, c2, rfl, H2, B2⟩
          have HB2 : Hid (Below w.heap.size w w2) := hide (HW.out.1.trans (B2.out.1.mono HW.out.1.size))
          have HS2 := hide (HS.out.1.below B2.out.1)
          clear STEP HV2 h1 h1i
          by_cases her : er = 0
          · subst her
            have HD := hide (move_done HR.out rfl)
            have HMK : Hid (mk (stL l n) m ≠ 0) := hide HD.out.2.2.2.2.1
            have HON := hide (HA.out.2.2.1.on HMK.out)
            have HST : Hid (stL l' n = mk (stL l n) m) := hide (by rw [HD.out.2.2.2.1, ins_st, if_pos rfl])
            have HOF : Hid (ofR l' n = (mk (stL l n) m, 0)) := hide (by rw [ofR_good HD.out.2.2.1 HD.out.2.1, HST.out])
            have HCK : Hid (checkE l' = 0) := hide (checkE_good HD.out.2.2.1)
            generalize mk (stL l n) m = s at *
            have hz5 : ¬ (5 : Int) < (zs.length : Int) := by have := HON.out.1; omega
            have hzl : (zs.length : Int) ≤ 5 := by have := HON.out.1; omega
            go_wp2_with fail
            refine (of_at HOF.out a2 _ c2 w2 B2.out.2 H2.out.1).mono ?_
            rintro e w3 ⟨rfl, B3⟩
            go_wp2_with fail
            refine (check_at HCK.out a2 _ c2 w3 B3.out.2 (H2.out.1.below' B3.out.1)).mono ?_
            rintro e w4 ⟨rfl, B4⟩
            have HB4 : Hid (Below w.heap.size w w4) := hide (HB2.out.trans ((B3.out.1.trans (B4.out.1.mono B3.out.1.size)).mono HB2.out.size))
            have HS4 := hide ((HS2.out.below B3.out.1).below B4.out.1)
            have HI4 := hide ((H2.out.1.below' B3.out.1).below' B4.out.1)
            have HNE : Hid (∀ b off, a2 = some ⟨b, off, none⟩ → b ≠ g) := hide (fun b off e => by have := H2.out.2 b off e; have := HS.out.1.lt; omega)
            clear HOF HCK
            go_wp2
            go_loopw [88] (fun i wq => ∃ j : Nat, j ≤ zs.length ∧ i = .int .i64 j ∧ wq = w4) (fun i _ => zs.length - (intOf i).toNat)
            case atStart => exact ⟨0, by omega, rfl, rfl⟩
            case round =>
              obtain ⟨j, hj, rfl, hw⟩ := hrel
              obtain rfl := hw.symm
              clear hw
              by_cases hjl : j < zs.length
              · have hc := HS4.out.cell j hjl
                have hx := HON.out.2.1 _ (getD_mem (d := (0 : Int)) hjl)
                have HU := hide ((HA.out.2.2.1.2 _ (getD_mem (d := (0 : Int)) hjl)).1)
                generalize zs.getD j 0 = x at *
                have hxs : ¬ x = s := hx.1
                have HEN := hide (ends_any x HU.out w4 B4.out.2)
                rw [hx.2] at HEN
                clear hx
                have hjI : (j : Int) < (zs.length : Int) := by omega
                go_wp2_with (first | (go_at_call 13; refine HEN.out.mono ?_; rintro e w' ⟨rfl, he'⟩; obtain rfl := he'.symm; clear he'))
                go_roundw
                case rel => exact ⟨j + 1, by omega, by simp, by trivial⟩
                case measure => simp [intOf]; omega
              · obtain rfl : j = zs.length := by omega
                have hqc : (w4.alloc (.cells #[.int .u8 s] 22)).cell? ⟨w4.heap.size, 0, none⟩ = some (.int .u8 s) := by simp
                have HS5 : Hid (SeenAt (w4.alloc (.cells #[.int .u8 s] 22)) w.heap.size g cp zs) := hide (World.ownsRow.alloc HS4.out _)
                have HB5 : Hid (Below w.heap.size w (w4.alloc (.cells #[.int .u8 s] 22))) := hide (HB4.out.alloc HB4.out.size _)
                have HBX : Hid (Below w4.heap.size w4 (w4.alloc (.cells #[.int .u8 s] 22))) := hide ((Below.refl _ _).alloc (Nat.le_refl _) _)
                have HQC := hide hqc
                clear hqc
                go_wp2_with (at_builtin; refine wpList_push rfl _ _ rfl w.heap.size g cp zs s w4.heap.size rfl HS5.out rfl HQC.out (by have := HON.out.1; omega) HB5.out.size ?_; intro g' cp' w6 HG6)
                go_roundw
                case rel => exact ⟨k + 1, a2, l'.length, c2, l', g', cp', zs ++ [s], by omega, by simp, rfl, by simp, hide ⟨(HI4.out.below' HBX.out).grown HG6.out.2.1 HNE.out, HD.out.2.2.1, by rw [HST.out]; exact HON.out.2.2, trivial⟩, hide ⟨HG6.out.1, fun b off e => by
                  rcases HG6.out.2.2 with rfl | rfl
                  · exact HNE.out b off e
                  · intro eb
                    have h0 := HI4.out.lt b off e
                    have := ins_pos l ⟨n, s⟩
                    rw [← HD.out.2.2.2.1] at this
                    have := h0 this
                    simp at eb
                    omega⟩, hide ⟨HB5.out.grown HG6.out.2.1 HB5.out.size (fun q hq => by cases hq; exact HS.out.1.lt.1), (B4.out.2.below' HBX.out).below (Nat.lt_of_lt_of_le HT.out.1 (Nat.le_refl _)) ((Below.refl w.heap.size _).grown HG6.out.2.1 HB5.out.size (fun q hq => by cases hq; exact HS.out.1.lt.1))⟩⟩
                case measure => simp [intOf]; omega
          · have hl0 := move_refused HR.out her
            subst hl0
            simp only [List.length_nil]
            go_wp2
            go_roundw
            case rel => exact ⟨k + 1, a, kk, c, l, g, cp, zs, by omega, by simp, rfl, rfl, hide ⟨HA.out.1.below' B2.out.1, HA.out.2⟩, hide ⟨HS2.out, HS.out.2⟩, hide ⟨HB2.out, B2.out.2⟩⟩
            case measure => simp [intOf]; omega
      · obtain rfl : k = len0 := by omega
        by_cases hkk : (kk : Int) = 0
        · obtain rfl : kk = 0 := by omega
          go_wp2
          go_ret
          exact ⟨rfl, HW.out.1⟩
        · go_wp2
          all_goals go_ret
          all_goals exact ⟨rfl, HW.out.1⟩
theorem endsWalk (a0 : Option Addr) (len0 cap0 : Nat) (ms : List Int) (a1 : Option Addr) (len1 cap1 : Nat) (vs : List Int) (n ot : Int) (w : World) (hT : Tab w) (hm : IsB w a0 len0 cap0 ms) (hl0 : len0 * 1 ≤ 140737488355328) (hv : IsB w a1 len1 cap1 vs) (hl1 : len1 * 1 ≤ 140737488355328) (hn : i64B n) (ho : i64B ot) : Calls Tryd.prog 5 #[.slice a0 len0 cap0, .slice a1 len1 cap1, .int .i64 n, .int .i64 ot] w fun e w' => e = .returned (.bool true) ∧ Below w.heap.size w w' := by
  by_cases h : 1 ≤ ot ∧ ot ≤ 1024 ∧ ¬ ot = n
  · exact endsA a0 len0 cap0 ms a1 len1 cap1 vs n ot w hT hm hl0 hv hl1 h
  · exact endsB a0 len0 cap0 ms a1 len1 cap1 vs n ot w hT hm hl0 hv hl1 h
end Go.Proofs.YtdiciobdknddkaaDoor

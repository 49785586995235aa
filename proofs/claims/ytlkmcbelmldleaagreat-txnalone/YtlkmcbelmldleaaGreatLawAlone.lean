/- TxnAlone, walked -/
import Derived.Test.YtlkmcbelmldleaaGreatAa
import Derived.Test.YtlkmcbelmldleaaGreatCx6
namespace Go.Proofs.YtlkmcbelmldleaaGreat
open Go.RowKit
set_option maxRecDepth 40000
set_option maxHeartbeats 16000000 in
theorem alone_law (a : Option Addr) (len cap : Nat) (l : List Pr) (sa : Option Addr) (sn sc : Nat) (sl : List Sx) (w : World) (hL : IsP w a len cap l) (hbig : len * 40 ≤ 140737488355328) (hS : IsSt w sa sn sc sl) (hsn : sn * 64 ≤ 140737488355328) :
    Calls Tryz.prog 6 #[.slice a len cap, .slice sa sn sc] w fun e w' => e = .returned (.bool true) ∧ Below w.heap.size w w' := by
  have HL := hide hL
  have HSS := hide hS
  have hlen : l.length = len := hL.1
  have HLN := hide hlen
  have hscm : sc ≤ 9223372036854775807 := hS.2.2.1
  have hsc := hS.2.1
  have HBIG := hide hbig
  clear hL hS hbig hlen
  go_enter Tryz.func6, Tryz.ntmps6
  go_wp2_with fail
  refine (lives_any _).mono ?_
  rintro e w0 ⟨rfl, hb0⟩
  have HB0 := hide hb0
  have HNW := hide (mn_new a len cap l w0 (HL.out.below hb0) HBIG.out)
  clear hb0
  go_wp2_with fail
  refine HNW.out.mono ?_
  rintro e w1 ⟨ptr, rfl, h1, h2, hb1⟩
  have HB1 := hide (HB0.out.trans (hb1.mono HB0.out.size))
  have HZ1 := hide hb1.size
  clear HNW
  by_cases hE : newE l = 0
  case neg =>
    obtain rfl := h2 hE
    clear h1 h2
    have hE2 : (newE l == 0) = false := by simpa using hE
    have hE3 : decide (newE l = 0) = false := decide_eq_false hE
    have hE4 : (newE l != 0) = true := by simpa using hE
    generalize newE l = E at *
    go_wp2
    go_ret
    exact ⟨rfl, HB1.out⟩
  case pos =>
    obtain ⟨g, rfl, hM⟩ := h1 hE
    rw [hE]
    rw [new_M hE] at hM
    have HE := hide hE
    have HM1 := hide hM
    have HS1 := hide (HSS.out.below HB1.out)
    clear h1 h2 hE hM hb1
    generalize hB : w0.heap.size = B at *
    have HWB : Hid (w.heap.size ≤ B) := hide (by rw [← hB]; exact HB0.out.size)
    clear hB
    have HBG := hide (mn_begin (fun i => i < B) w1 g _ HM1.out (by show (0 : Nat) + 1 < _; omega))
    rw [begin_alone] at HBG
    dsimp only at HBG
    go_wp2_with fail
    refine HBG.out.mono ?_
    rintro e w2 ⟨rfl, hM, hF⟩
    have hb2 := hF.low (B := B) (fun i h => h) HZ1.out
    have HB2 := hide (HB1.out.trans (hb2.mono HWB.out))
    have HZ2 := hide (Nat.le_trans HZ1.out hb2.size)
    have HM2 := hide hM
    clear hM hF hb2 HBG HM1
    generalize hvs : vsN l = vs at *
    have HVS := hide hvs
    clear hvs
    go_wp2
    go_loopw [44] (fun v44 wr => ∃ (k : Nat) (tr : Tr), k ≤ sn ∧ v44 = .int .i64 (k : Nat) ∧ Hid (Mn (fun i => i < B) wr g (aM vs tr) ∧ tr.began = 1 ∧ tr.reads.length ≤ 3 * min k 61 ∧ SrtW tr.ws ∧ tr.ws.any longB = false ∧ Below B w2 wr ∧ B ≤ wr.heap.size)) (fun v44 _ => sn - (intOf v44).toNat)
    case atStart => exact ⟨0, ⟨1, [], []⟩, Nat.zero_le _, rfl, hide ⟨HM2.out, rfl, Nat.zero_le _, List.Pairwise.nil, rfl, Below.refl _ _, HZ2.out⟩⟩
    case round =>
      obtain ⟨k, tr, hk, rfl, HI⟩ := hrel
      have HI' : Hid (Below w.heap.size w wr) := hide (HB2.out.trans (HI.out.2.2.2.2.2.1.mono HWB.out))
      by_cases hlt : k < sn
      · obtain ⟨ht, b, off, rfl, hbs, z0, z1, z2, z3, z4⟩ := (HSS.out.below HI'.out).2.2.2 k hlt
        generalize sl.getD k Sx0 = x at *
        obtain ⟨xk, xt, x2, x3, x4⟩ := x
        dsimp only at z0 z1 z2 z3 z4
        have hw1 : IntKind.i64.wrap ((k : Int) + 1) = (k : Int) + 1 := wr64' (by omega) (by omega)
        have hi4 : (0 : Int) ≤ (k : Int) := by omega
        have hiI : (k : Int) < (sn : Int) := by omega
        by_cases hk61 : k ≤ 60
        · have hkd : decide ((60 : Int) < (k : Int)) = false := decide_eq_false (by omega)
          have hkn : ¬ (60 : Int) < (k : Int) := by omega
          have HRL : Hid (tr.reads.length ≤ 3 * k) := hide (by have := HI.out.2.2.1; omega)
          by_cases e2 : xk = 2
          · subst e2
            have HAG : Hid (rdV vs (rdT (rdT tr x2) x2) x2 = rdV vs (rdT tr x2) x2) := hide (rdV_again vs x2 (rdT_ws _ _).1 (rdT_ws _ _).2.1 (by have := (rdT_ws tr x2).2.2.2; have := HRL.out; omega) (by have := (rdT_ws tr x2).2.2.2; have := (rdT_ws (rdT tr x2) x2).2.2.2; have := HRL.out; omega))
            have HAG0 : Hid (rdV vs (rdT tr x2) x2 = rdV vs tr x2) := hide (rdV_again vs x2 (rdT_ws _ _).1 (rdT_ws _ _).2.1 (by have := HRL.out; omega) (by have := (rdT_ws tr x2).2.2.2; have := HRL.out; omega))
            rw [HAG0.out] at HAG
            have HGA := hide (get_alone vs tr x2)
            obtain ⟨V, I, E, hV⟩ : ∃ V I E, rdV vs tr x2 = (V, I, E) := ⟨_, _, _, rfl⟩
            rw [hV] at HAG HAG0 HGA
            clear hV
            have HBx : Hid (Below wr.heap.size wr (wr.alloc (.cells #[.int .u8 2, .int .i64 1, .string x2, .string x3, .string x4] 40))) := hide ((Below.refl _ wr).alloc (Nat.le_refl _) _)
            have HNx := hide (heap_alloc_new wr (.cells #[.int .u8 2, .int .i64 1, .string x2, .string x3, .string x4] 40))
            have HMx := hide (HI.out.1.news HBx.out)
            have HDO := hide ((by have := do_get _ _ g _ HMx.out 1 (by omega) x2 x3 x4; rw [HGA.out] at this; exact this))
            have HSx : Hid ((wr.alloc (.cells #[.int .u8 2, .int .i64 1, .string x2, .string x3, .string x4] 40)).heap.size = wr.heap.size + 1) := hide (World.size_alloc _ _)
            go_wp2_with fail
            generalize (wr.alloc (.cells #[.int .u8 2, .int .i64 1, .string x2, .string x3, .string x4] 40)) = V1 at *
            refine HDO.out.mono ?_
            rintro e V2 ⟨rfl, hM, hF⟩
            have HM2 := hide hM
            have HF2 := hide hF
            have HN2 : Hid (V2.heap[wr.heap.size]? = some (.cells #[.int .u8 2, .int .i64 1, .string x2, .string x3, .string x4] 40 (0, 0))) := hide ((hF.block _ (heap_lt HNx.out) (fun hn => hn (.inr ⟨Nat.le_refl _, by have := HSx.out; omega⟩))).trans HNx.out)
            clear hM hF HDO
            have HBy : Hid (Below V2.heap.size V2 (V2.alloc (.cells #[.int .i64 (E), .int .i64 0, .string (V), .bool (I), .slice none 0 0, .slice none 0 0, .int .u64 0] 47))) := hide ((Below.refl _ V2).alloc (Nat.le_refl _) _)
            have HNy := hide (heap_alloc_new V2 (.cells #[.int .i64 (E), .int .i64 0, .string (V), .bool (I), .slice none 0 0, .slice none 0 0, .int .u64 0] 47))
            have HMy := hide (HM2.out.news HBy.out)
            have HSy : Hid ((V2.alloc (.cells #[.int .i64 (E), .int .i64 0, .string (V), .bool (I), .slice none 0 0, .slice none 0 0, .int .u64 0] 47)).heap.size = V2.heap.size + 1) := hide (World.size_alloc _ _)
            have HNxy : Hid ((V2.alloc (.cells #[.int .i64 (E), .int .i64 0, .string (V), .bool (I), .slice none 0 0, .slice none 0 0, .int .u64 0] 47)).heap[wr.heap.size]? = some (.cells #[.int .u8 2, .int .i64 1, .string x2, .string x3, .string x4] 40 (0, 0))) := hide ((HBy.out.block _ (heap_lt HN2.out)).trans HN2.out)
            have HLx := hide (heap_lt HN2.out)
            have x2c : (V2.alloc (.cells #[.int .i64 (E), .int .i64 0, .string (V), .bool (I), .slice none 0 0, .slice none 0 0, .int .u64 0] 47)).cell? ⟨wr.heap.size, 2, none⟩ = some (.string x2) := cell_blk HNxy.out rfl
            have HG1 := hide (mn_get _ _ g _ HMy.out 1 (by omega) x2)
            rw [get_alone] at HG1
            dsimp only at HG1
            rw [HAG0.out] at HG1
            go_wp2_with fail
            generalize (V2.alloc (.cells #[.int .i64 (E), .int .i64 0, .string (V), .bool (I), .slice none 0 0, .slice none 0 0, .int .u64 0] 47)) = V3 at *
            refine HG1.out.mono ?_
            rintro e V4 ⟨rfl, hM, hF⟩
            have HM4 := hide hM
            have HF4 := hide hF
            have HN4x : Hid (V4.heap[wr.heap.size]? = some (.cells #[.int .u8 2, .int .i64 1, .string x2, .string x3, .string x4] 40 (0, 0))) := hide ((hF.block _ (heap_lt HNxy.out) (fun hn => hn (.inl (.inr ⟨Nat.le_refl _, by have := HSx.out; omega⟩)))).trans HNxy.out)
            have HN4y : Hid (V4.heap[V2.heap.size]? = some (.cells #[.int .i64 (E), .int .i64 0, .string (V), .bool (I), .slice none 0 0, .slice none 0 0, .int .u64 0] 47 (0, 0))) := hide ((hF.block _ (heap_lt HNy.out) (fun hn => hn (.inr ⟨Nat.le_refl _, by have := HSy.out; omega⟩))).trans HNy.out)
            clear hM hF HG1 x2c
            have x2c : V4.cell? ⟨wr.heap.size, 2, none⟩ = some (.string x2) := cell_blk HN4x.out rfl
            have HG2 := hide (mn_get _ _ g _ HM4.out 1 (by omega) x2)
            rw [get_alone] at HG2
            dsimp only at HG2
            rw [HAG.out] at HG2
            go_wp2_with fail
            refine HG2.out.mono ?_
            rintro e V5 ⟨rfl, hM, hF⟩
            have HN5x : Hid (V5.heap[wr.heap.size]? = some (.cells #[.int .u8 2, .int .i64 1, .string x2, .string x3, .string x4] 40 (0, 0))) := hide ((hF.block _ (heap_lt HN4x.out) (fun hn => hn (.inl (.inr ⟨Nat.le_refl _, by have := HSx.out; omega⟩)))).trans HN4x.out)
            have HN5y : Hid (V5.heap[V2.heap.size]? = some (.cells #[.int .i64 (E), .int .i64 0, .string (V), .bool (I), .slice none 0 0, .slice none 0 0, .int .u64 0] 47 (0, 0))) := hide ((hF.block _ (heap_lt HN4y.out) (fun hn => hn (.inr ⟨Nat.le_refl _, by have := HSy.out; omega⟩))).trans HN4y.out)
            have HFIN : Hid (Mn (fun i => i < B) V5 g (aM vs (rdT (rdT (rdT tr x2) x2) x2)) ∧ Below B w2 V5 ∧ B ≤ V5.heap.size) := hide (by
              have hb1 : Below B wr V5 := by
                have q1 : Below B wr V1 := HBx.out.mono (by have := HI.out.2.2.2.2.2.2; omega)
                have z1 : B ≤ V1.heap.size := Nat.le_trans HI.out.2.2.2.2.2.2 q1.size
                have q2 : Below B V1 V2 := HF2.out.low (fun i hi => .inl hi) z1
                have z2 := Nat.le_trans z1 q2.size
                have q3 : Below B V2 V3 := HBy.out.mono z2
                have z3 := Nat.le_trans z2 q3.size
                have q4 : Below B V3 V4 := HF4.out.low (fun i hi => .inl (.inl hi)) z3
                have z4 := Nat.le_trans z3 q4.size
                have q5 : Below B V4 V5 := hF.low (fun i hi => .inl (.inl hi)) z4
                exact (((q1.trans q2).trans q3).trans q4).trans q5
              exact ⟨hM.mono (fun i hi => .inl (.inl hi)), HI.out.2.2.2.2.2.1.trans hb1, Nat.le_trans HI.out.2.2.2.2.2.2 hb1.size⟩)
            clear hM hF HG2 x2c HM4 HF4 HMy HM2 HF2 HMx HBx HBy HNx HN2 HNy HNxy HN4x HN4y
            have k0 : V5.cell? ⟨wr.heap.size, 0, none⟩ = some (.int .u8 2) := cell_blk HN5x.out rfl
            have k4 : V5.cell? ⟨wr.heap.size, 4, none⟩ = some (.string x4) := cell_blk HN5x.out rfl
            have y0 : V5.cell? ⟨V2.heap.size, 0, none⟩ = some (.int .i64 (E)) := cell_blk HN5y.out rfl
            have y2 : V5.cell? ⟨V2.heap.size, 2, none⟩ = some (.string (V)) := cell_blk HN5y.out rfl
            have y3 : V5.cell? ⟨V2.heap.size, 3, none⟩ = some (.bool (I)) := cell_blk HN5y.out rfl
            by_cases hE0 : E = 0
            · subst hE0
              have HNXT : Hid (Mn (fun i => i < B) V5 g (aM vs (rdT (rdT (rdT tr x2) x2) x2)) ∧ (rdT (rdT (rdT tr x2) x2) x2).began = 1 ∧ (rdT (rdT (rdT tr x2) x2) x2).reads.length ≤ 3 * min (k + 1) 61 ∧ SrtW (rdT (rdT (rdT tr x2) x2) x2).ws ∧ (rdT (rdT (rdT tr x2) x2) x2).ws.any longB = false ∧ Below B w2 V5 ∧ B ≤ V5.heap.size) := hide ⟨HFIN.out.1, by rw [(rdT_ws _ _).2.1, (rdT_ws _ _).2.1, (rdT_ws _ _).2.1]; exact HI.out.2.1, by have h1 := (rdT_ws tr x2).2.2.2; have h2 := (rdT_ws (rdT tr x2) x2).2.2.2; have h3 := (rdT_ws (rdT (rdT tr x2) x2) x2).2.2.2; have h4 := HRL.out; omega, by rw [(rdT_ws _ _).1, (rdT_ws _ _).1, (rdT_ws _ _).1]; exact HI.out.2.2.2.1, by rw [(rdT_ws _ _).1, (rdT_ws _ _).1, (rdT_ws _ _).1]; exact HI.out.2.2.2.2.1, HFIN.out.2.1, HFIN.out.2.2⟩
              clear HFIN HN5x HN5y
              go_wp2
              go_roundw
              case rel => exact ⟨k + 1, _, by omega, by simp, HNXT⟩
              case measure => simp [intOf]; omega
            · have hE1 : (E == 0) = false := by simpa using hE0
              have hE2 : decide (E = 0) = false := decide_eq_false hE0
              have HNXT : Hid (Mn (fun i => i < B) V5 g (aM vs (rdT (rdT (rdT tr x2) x2) x2)) ∧ (rdT (rdT (rdT tr x2) x2) x2).began = 1 ∧ (rdT (rdT (rdT tr x2) x2) x2).reads.length ≤ 3 * min (k + 1) 61 ∧ SrtW (rdT (rdT (rdT tr x2) x2) x2).ws ∧ (rdT (rdT (rdT tr x2) x2) x2).ws.any longB = false ∧ Below B w2 V5 ∧ B ≤ V5.heap.size) := hide ⟨HFIN.out.1, by rw [(rdT_ws _ _).2.1, (rdT_ws _ _).2.1, (rdT_ws _ _).2.1]; exact HI.out.2.1, by have h1 := (rdT_ws tr x2).2.2.2; have h2 := (rdT_ws (rdT tr x2) x2).2.2.2; have h3 := (rdT_ws (rdT (rdT tr x2) x2) x2).2.2.2; have h4 := HRL.out; omega, by rw [(rdT_ws _ _).1, (rdT_ws _ _).1, (rdT_ws _ _).1]; exact HI.out.2.2.2.1, by rw [(rdT_ws _ _).1, (rdT_ws _ _).1, (rdT_ws _ _).1]; exact HI.out.2.2.2.2.1, HFIN.out.2.1, HFIN.out.2.2⟩
              clear HFIN HN5x HN5y
              go_wp2
              go_roundw
              case rel => exact ⟨k + 1, _, by omega, by simp, HNXT⟩
              case measure => simp [intOf]; omega
          · by_cases e4 : xk = 4
            · subst e4
              have HTS := hide (wroteTr_same tr ⟨x2, x4, false⟩)
              have HAG : Hid (rdV vs (rdT (wroteTr tr ⟨x2, x4, false⟩) x2) x2 = rdV vs (wroteTr tr ⟨x2, x4, false⟩) x2) := hide (rdV_again vs x2 (rdT_ws _ _).1 (rdT_ws _ _).2.1 (by rw [HTS.out.2]; have := HRL.out; omega) (by have h1 := (rdT_ws (wroteTr tr ⟨x2, x4, false⟩) x2).2.2.2; rw [HTS.out.2] at h1; have := HRL.out; omega))
              have HGA := hide (write_alone vs tr ⟨x2, x4, false⟩)
              by_cases hE0 : wrote tr ⟨x2, x4, false⟩ = 0
              · have HAG0 : Hid (rdV vs (wroteTr tr ⟨x2, x4, false⟩) x2 = (x4, true, 0)) := hide (rdV_wrote vs hE0 (by have := HRL.out; omega))
                rw [HAG0.out] at HAG
                rw [hE0] at HGA
                have HBx : Hid (Below wr.heap.size wr (wr.alloc (.cells #[.int .u8 4, .int .i64 1, .string x2, .string x3, .string x4] 40))) := hide ((Below.refl _ wr).alloc (Nat.le_refl _) _)
                have HNx := hide (heap_alloc_new wr (.cells #[.int .u8 4, .int .i64 1, .string x2, .string x3, .string x4] 40))
                have HMx := hide (HI.out.1.news HBx.out)
                have HDO := hide ((by have := do_put _ _ g _ HMx.out 1 (by omega) x2 x3 x4; rw [HGA.out] at this; exact this))
                have HSx : Hid ((wr.alloc (.cells #[.int .u8 4, .int .i64 1, .string x2, .string x3, .string x4] 40)).heap.size = wr.heap.size + 1) := hide (World.size_alloc _ _)
                go_wp2_with fail
                generalize (wr.alloc (.cells #[.int .u8 4, .int .i64 1, .string x2, .string x3, .string x4] 40)) = V1 at *
                refine HDO.out.mono ?_
                rintro e V2 ⟨rfl, hM, hF⟩
                have HM2 := hide hM
                have HF2 := hide hF
                have HN2 : Hid (V2.heap[wr.heap.size]? = some (.cells #[.int .u8 4, .int .i64 1, .string x2, .string x3, .string x4] 40 (0, 0))) := hide ((hF.block _ (heap_lt HNx.out) (fun hn => hn (.inr ⟨Nat.le_refl _, by have := HSx.out; omega⟩))).trans HNx.out)
                clear hM hF HDO
                have HBy : Hid (Below V2.heap.size V2 (V2.alloc (.cells #[.int .i64 (0), .int .i64 0, .string (⟨#[]⟩), .bool (false), .slice none 0 0, .slice none 0 0, .int .u64 0] 47))) := hide ((Below.refl _ V2).alloc (Nat.le_refl _) _)
                have HNy := hide (heap_alloc_new V2 (.cells #[.int .i64 (0), .int .i64 0, .string (⟨#[]⟩), .bool (false), .slice none 0 0, .slice none 0 0, .int .u64 0] 47))
                have HMy := hide (HM2.out.news HBy.out)
                have HSy : Hid ((V2.alloc (.cells #[.int .i64 (0), .int .i64 0, .string (⟨#[]⟩), .bool (false), .slice none 0 0, .slice none 0 0, .int .u64 0] 47)).heap.size = V2.heap.size + 1) := hide (World.size_alloc _ _)
                have HNxy : Hid ((V2.alloc (.cells #[.int .i64 (0), .int .i64 0, .string (⟨#[]⟩), .bool (false), .slice none 0 0, .slice none 0 0, .int .u64 0] 47)).heap[wr.heap.size]? = some (.cells #[.int .u8 4, .int .i64 1, .string x2, .string x3, .string x4] 40 (0, 0))) := hide ((HBy.out.block _ (heap_lt HN2.out)).trans HN2.out)
                have HLx := hide (heap_lt HN2.out)
                have x2c : (V2.alloc (.cells #[.int .i64 (0), .int .i64 0, .string (⟨#[]⟩), .bool (false), .slice none 0 0, .slice none 0 0, .int .u64 0] 47)).cell? ⟨wr.heap.size, 2, none⟩ = some (.string x2) := cell_blk HNxy.out rfl
                have HG1 := hide (mn_get _ _ g _ HMy.out 1 (by omega) x2)
                rw [get_alone] at HG1
                dsimp only at HG1
                rw [HAG0.out] at HG1
                go_wp2_with fail
                generalize (V2.alloc (.cells #[.int .i64 (0), .int .i64 0, .string (⟨#[]⟩), .bool (false), .slice none 0 0, .slice none 0 0, .int .u64 0] 47)) = V3 at *
                refine HG1.out.mono ?_
                rintro e V4 ⟨rfl, hM, hF⟩
                have HM4 := hide hM
                have HF4 := hide hF
                have HN4x : Hid (V4.heap[wr.heap.size]? = some (.cells #[.int .u8 4, .int .i64 1, .string x2, .string x3, .string x4] 40 (0, 0))) := hide ((hF.block _ (heap_lt HNxy.out) (fun hn => hn (.inl (.inr ⟨Nat.le_refl _, by have := HSx.out; omega⟩)))).trans HNxy.out)
                have HN4y : Hid (V4.heap[V2.heap.size]? = some (.cells #[.int .i64 (0), .int .i64 0, .string (⟨#[]⟩), .bool (false), .slice none 0 0, .slice none 0 0, .int .u64 0] 47 (0, 0))) := hide ((hF.block _ (heap_lt HNy.out) (fun hn => hn (.inr ⟨Nat.le_refl _, by have := HSy.out; omega⟩))).trans HNy.out)
                clear hM hF HG1 x2c
                have x2c : V4.cell? ⟨wr.heap.size, 2, none⟩ = some (.string x2) := cell_blk HN4x.out rfl
                have HG2 := hide (mn_get _ _ g _ HM4.out 1 (by omega) x2)
                rw [get_alone] at HG2
                dsimp only at HG2
                rw [HAG.out] at HG2
                go_wp2_with fail
                refine HG2.out.mono ?_
                rintro e V5 ⟨rfl, hM, hF⟩
                have HN5x : Hid (V5.heap[wr.heap.size]? = some (.cells #[.int .u8 4, .int .i64 1, .string x2, .string x3, .string x4] 40 (0, 0))) := hide ((hF.block _ (heap_lt HN4x.out) (fun hn => hn (.inl (.inr ⟨Nat.le_refl _, by have := HSx.out; omega⟩)))).trans HN4x.out)
                have HN5y : Hid (V5.heap[V2.heap.size]? = some (.cells #[.int .i64 (0), .int .i64 0, .string (⟨#[]⟩), .bool (false), .slice none 0 0, .slice none 0 0, .int .u64 0] 47 (0, 0))) := hide ((hF.block _ (heap_lt HN4y.out) (fun hn => hn (.inr ⟨Nat.le_refl _, by have := HSy.out; omega⟩))).trans HN4y.out)
                have HFIN : Hid (Mn (fun i => i < B) V5 g (aM vs (rdT (rdT (wroteTr tr ⟨x2, x4, false⟩) x2) x2)) ∧ Below B w2 V5 ∧ B ≤ V5.heap.size) := hide (by
                  have hb1 : Below B wr V5 := by
                    have q1 : Below B wr V1 := HBx.out.mono (by have := HI.out.2.2.2.2.2.2; omega)
                    have z1 : B ≤ V1.heap.size := Nat.le_trans HI.out.2.2.2.2.2.2 q1.size
                    have q2 : Below B V1 V2 := HF2.out.low (fun i hi => .inl hi) z1
                    have z2 := Nat.le_trans z1 q2.size
                    have q3 : Below B V2 V3 := HBy.out.mono z2
                    have z3 := Nat.le_trans z2 q3.size
                    have q4 : Below B V3 V4 := HF4.out.low (fun i hi => .inl (.inl hi)) z3
                    have z4 := Nat.le_trans z3 q4.size
                    have q5 : Below B V4 V5 := hF.low (fun i hi => .inl (.inl hi)) z4
                    exact (((q1.trans q2).trans q3).trans q4).trans q5
                  exact ⟨hM.mono (fun i hi => .inl (.inl hi)), HI.out.2.2.2.2.2.1.trans hb1, Nat.le_trans HI.out.2.2.2.2.2.2 hb1.size⟩)
                clear hM hF HG2 x2c HM4 HF4 HMy HM2 HF2 HMx HBx HBy HNx HN2 HNy HNxy HN4x HN4y
                have k0 : V5.cell? ⟨wr.heap.size, 0, none⟩ = some (.int .u8 4) := cell_blk HN5x.out rfl
                have k4 : V5.cell? ⟨wr.heap.size, 4, none⟩ = some (.string x4) := cell_blk HN5x.out rfl
                have y0 : V5.cell? ⟨V2.heap.size, 0, none⟩ = some (.int .i64 (0)) := cell_blk HN5y.out rfl
                have y2 : V5.cell? ⟨V2.heap.size, 2, none⟩ = some (.string (⟨#[]⟩)) := cell_blk HN5y.out rfl
                have y3 : V5.cell? ⟨V2.heap.size, 3, none⟩ = some (.bool (false)) := cell_blk HN5y.out rfl
                have HNXT : Hid (Mn (fun i => i < B) V5 g (aM vs (rdT (rdT (wroteTr tr ⟨x2, x4, false⟩) x2) x2)) ∧ (rdT (rdT (wroteTr tr ⟨x2, x4, false⟩) x2) x2).began = 1 ∧ (rdT (rdT (wroteTr tr ⟨x2, x4, false⟩) x2) x2).reads.length ≤ 3 * min (k + 1) 61 ∧ SrtW (rdT (rdT (wroteTr tr ⟨x2, x4, false⟩) x2) x2).ws ∧ (rdT (rdT (wroteTr tr ⟨x2, x4, false⟩) x2) x2).ws.any longB = false ∧ Below B w2 V5 ∧ B ≤ V5.heap.size) := hide ⟨HFIN.out.1, by rw [(rdT_ws _ _).2.1, (rdT_ws _ _).2.1, HTS.out.1]; exact HI.out.2.1, by have h1 := (rdT_ws (wroteTr tr ⟨x2, x4, false⟩) x2).2.2.2; have h2 := (rdT_ws (rdT (wroteTr tr ⟨x2, x4, false⟩) x2) x2).2.2.2; rw [HTS.out.2] at h1; have h4 := HRL.out; omega, by rw [(rdT_ws _ _).1, (rdT_ws _ _).1]; exact wrote_srt HI.out.2.2.2.1, by rw [(rdT_ws _ _).1, (rdT_ws _ _).1]; exact wrote_long HI.out.2.2.2.2.1, HFIN.out.2.1, HFIN.out.2.2⟩
                clear HFIN HN5x HN5y
                go_wp2
                go_roundw
                case rel => exact ⟨k + 1, _, by omega, by simp, HNXT⟩
                case measure => simp [intOf]; omega
              · obtain ⟨V, I, E1, hV⟩ : ∃ V I E1, rdV vs (wroteTr tr ⟨x2, x4, false⟩) x2 = (V, I, E1) := ⟨_, _, _, rfl⟩
                have HAG0 := hide hV
                rw [HAG0.out] at HAG
                clear hV
                obtain ⟨EW, hEW⟩ : ∃ EW, wrote tr ⟨x2, x4, false⟩ = EW := ⟨_, rfl⟩
                rw [hEW] at HGA hE0
                clear hEW
                have hE1 : (EW == 0) = false := by simpa using hE0
                have hE2 : decide (EW = 0) = false := decide_eq_false hE0
                have HBx : Hid (Below wr.heap.size wr (wr.alloc (.cells #[.int .u8 4, .int .i64 1, .string x2, .string x3, .string x4] 40))) := hide ((Below.refl _ wr).alloc (Nat.le_refl _) _)
                have HNx := hide (heap_alloc_new wr (.cells #[.int .u8 4, .int .i64 1, .string x2, .string x3, .string x4] 40))
                have HMx := hide (HI.out.1.news HBx.out)
                have HDO := hide ((by have := do_put _ _ g _ HMx.out 1 (by omega) x2 x3 x4; rw [HGA.out] at this; exact this))
                have HSx : Hid ((wr.alloc (.cells #[.int .u8 4, .int .i64 1, .string x2, .string x3, .string x4] 40)).heap.size = wr.heap.size + 1) := hide (World.size_alloc _ _)
                go_wp2_with fail
                generalize (wr.alloc (.cells #[.int .u8 4, .int .i64 1, .string x2, .string x3, .string x4] 40)) = V1 at *
                refine HDO.out.mono ?_
                rintro e V2 ⟨rfl, hM, hF⟩
                have HM2 := hide hM
                have HF2 := hide hF
                have HN2 : Hid (V2.heap[wr.heap.size]? = some (.cells #[.int .u8 4, .int .i64 1, .string x2, .string x3, .string x4] 40 (0, 0))) := hide ((hF.block _ (heap_lt HNx.out) (fun hn => hn (.inr ⟨Nat.le_refl _, by have := HSx.out; omega⟩))).trans HNx.out)
                clear hM hF HDO
                have HBy : Hid (Below V2.heap.size V2 (V2.alloc (.cells #[.int .i64 (EW), .int .i64 0, .string (⟨#[]⟩), .bool (false), .slice none 0 0, .slice none 0 0, .int .u64 0] 47))) := hide ((Below.refl _ V2).alloc (Nat.le_refl _) _)
                have HNy := hide (heap_alloc_new V2 (.cells #[.int .i64 (EW), .int .i64 0, .string (⟨#[]⟩), .bool (false), .slice none 0 0, .slice none 0 0, .int .u64 0] 47))
                have HMy := hide (HM2.out.news HBy.out)
                have HSy : Hid ((V2.alloc (.cells #[.int .i64 (EW), .int .i64 0, .string (⟨#[]⟩), .bool (false), .slice none 0 0, .slice none 0 0, .int .u64 0] 47)).heap.size = V2.heap.size + 1) := hide (World.size_alloc _ _)
                have HNxy : Hid ((V2.alloc (.cells #[.int .i64 (EW), .int .i64 0, .string (⟨#[]⟩), .bool (false), .slice none 0 0, .slice none 0 0, .int .u64 0] 47)).heap[wr.heap.size]? = some (.cells #[.int .u8 4, .int .i64 1, .string x2, .string x3, .string x4] 40 (0, 0))) := hide ((HBy.out.block _ (heap_lt HN2.out)).trans HN2.out)
                have HLx := hide (heap_lt HN2.out)
                have x2c : (V2.alloc (.cells #[.int .i64 (EW), .int .i64 0, .string (⟨#[]⟩), .bool (false), .slice none 0 0, .slice none 0 0, .int .u64 0] 47)).cell? ⟨wr.heap.size, 2, none⟩ = some (.string x2) := cell_blk HNxy.out rfl
                have HG1 := hide (mn_get _ _ g _ HMy.out 1 (by omega) x2)
                rw [get_alone] at HG1
                dsimp only at HG1
                rw [HAG0.out] at HG1
                go_wp2_with fail
                generalize (V2.alloc (.cells #[.int .i64 (EW), .int .i64 0, .string (⟨#[]⟩), .bool (false), .slice none 0 0, .slice none 0 0, .int .u64 0] 47)) = V3 at *
                refine HG1.out.mono ?_
                rintro e V4 ⟨rfl, hM, hF⟩
                have HM4 := hide hM
                have HF4 := hide hF
                have HN4x : Hid (V4.heap[wr.heap.size]? = some (.cells #[.int .u8 4, .int .i64 1, .string x2, .string x3, .string x4] 40 (0, 0))) := hide ((hF.block _ (heap_lt HNxy.out) (fun hn => hn (.inl (.inr ⟨Nat.le_refl _, by have := HSx.out; omega⟩)))).trans HNxy.out)
                have HN4y : Hid (V4.heap[V2.heap.size]? = some (.cells #[.int .i64 (EW), .int .i64 0, .string (⟨#[]⟩), .bool (false), .slice none 0 0, .slice none 0 0, .int .u64 0] 47 (0, 0))) := hide ((hF.block _ (heap_lt HNy.out) (fun hn => hn (.inr ⟨Nat.le_refl _, by have := HSy.out; omega⟩))).trans HNy.out)
                clear hM hF HG1 x2c
                have x2c : V4.cell? ⟨wr.heap.size, 2, none⟩ = some (.string x2) := cell_blk HN4x.out rfl
                have HG2 := hide (mn_get _ _ g _ HM4.out 1 (by omega) x2)
                rw [get_alone] at HG2
                dsimp only at HG2
                rw [HAG.out] at HG2
                go_wp2_with fail
                refine HG2.out.mono ?_
                rintro e V5 ⟨rfl, hM, hF⟩
                have HN5x : Hid (V5.heap[wr.heap.size]? = some (.cells #[.int .u8 4, .int .i64 1, .string x2, .string x3, .string x4] 40 (0, 0))) := hide ((hF.block _ (heap_lt HN4x.out) (fun hn => hn (.inl (.inr ⟨Nat.le_refl _, by have := HSx.out; omega⟩)))).trans HN4x.out)
                have HN5y : Hid (V5.heap[V2.heap.size]? = some (.cells #[.int .i64 (EW), .int .i64 0, .string (⟨#[]⟩), .bool (false), .slice none 0 0, .slice none 0 0, .int .u64 0] 47 (0, 0))) := hide ((hF.block _ (heap_lt HN4y.out) (fun hn => hn (.inr ⟨Nat.le_refl _, by have := HSy.out; omega⟩))).trans HN4y.out)
                have HFIN : Hid (Mn (fun i => i < B) V5 g (aM vs (rdT (rdT (wroteTr tr ⟨x2, x4, false⟩) x2) x2)) ∧ Below B w2 V5 ∧ B ≤ V5.heap.size) := hide (by
                  have hb1 : Below B wr V5 := by
                    have q1 : Below B wr V1 := HBx.out.mono (by have := HI.out.2.2.2.2.2.2; omega)
                    have z1 : B ≤ V1.heap.size := Nat.le_trans HI.out.2.2.2.2.2.2 q1.size
                    have q2 : Below B V1 V2 := HF2.out.low (fun i hi => .inl hi) z1
                    have z2 := Nat.le_trans z1 q2.size
                    have q3 : Below B V2 V3 := HBy.out.mono z2
                    have z3 := Nat.le_trans z2 q3.size
                    have q4 : Below B V3 V4 := HF4.out.low (fun i hi => .inl (.inl hi)) z3
                    have z4 := Nat.le_trans z3 q4.size
                    have q5 : Below B V4 V5 := hF.low (fun i hi => .inl (.inl hi)) z4
                    exact (((q1.trans q2).trans q3).trans q4).trans q5
                  exact ⟨hM.mono (fun i hi => .inl (.inl hi)), HI.out.2.2.2.2.2.1.trans hb1, Nat.le_trans HI.out.2.2.2.2.2.2 hb1.size⟩)
                clear hM hF HG2 x2c HM4 HF4 HMy HM2 HF2 HMx HBx HBy HNx HN2 HNy HNxy HN4x HN4y
                have k0 : V5.cell? ⟨wr.heap.size, 0, none⟩ = some (.int .u8 4) := cell_blk HN5x.out rfl
                have k4 : V5.cell? ⟨wr.heap.size, 4, none⟩ = some (.string x4) := cell_blk HN5x.out rfl
                have y0 : V5.cell? ⟨V2.heap.size, 0, none⟩ = some (.int .i64 (EW)) := cell_blk HN5y.out rfl
                have y2 : V5.cell? ⟨V2.heap.size, 2, none⟩ = some (.string (⟨#[]⟩)) := cell_blk HN5y.out rfl
                have y3 : V5.cell? ⟨V2.heap.size, 3, none⟩ = some (.bool (false)) := cell_blk HN5y.out rfl
                have HNXT : Hid (Mn (fun i => i < B) V5 g (aM vs (rdT (rdT (wroteTr tr ⟨x2, x4, false⟩) x2) x2)) ∧ (rdT (rdT (wroteTr tr ⟨x2, x4, false⟩) x2) x2).began = 1 ∧ (rdT (rdT (wroteTr tr ⟨x2, x4, false⟩) x2) x2).reads.length ≤ 3 * min (k + 1) 61 ∧ SrtW (rdT (rdT (wroteTr tr ⟨x2, x4, false⟩) x2) x2).ws ∧ (rdT (rdT (wroteTr tr ⟨x2, x4, false⟩) x2) x2).ws.any longB = false ∧ Below B w2 V5 ∧ B ≤ V5.heap.size) := hide ⟨HFIN.out.1, by rw [(rdT_ws _ _).2.1, (rdT_ws _ _).2.1, HTS.out.1]; exact HI.out.2.1, by have h1 := (rdT_ws (wroteTr tr ⟨x2, x4, false⟩) x2).2.2.2; have h2 := (rdT_ws (rdT (wroteTr tr ⟨x2, x4, false⟩) x2) x2).2.2.2; rw [HTS.out.2] at h1; have h4 := HRL.out; omega, by rw [(rdT_ws _ _).1, (rdT_ws _ _).1]; exact wrote_srt HI.out.2.2.2.1, by rw [(rdT_ws _ _).1, (rdT_ws _ _).1]; exact wrote_long HI.out.2.2.2.2.1, HFIN.out.2.1, HFIN.out.2.2⟩
                clear HFIN HN5x HN5y
                go_wp2
                go_roundw
                case rel => exact ⟨k + 1, _, by omega, by simp, HNXT⟩
                case measure => simp [intOf]; omega
            · by_cases e5 : xk = 5
              · subst e5
                have HTS := hide (wroteTr_same tr ⟨x2, ⟨#[]⟩, true⟩)
                have HAG : Hid (rdV vs (rdT (wroteTr tr ⟨x2, ⟨#[]⟩, true⟩) x2) x2 = rdV vs (wroteTr tr ⟨x2, ⟨#[]⟩, true⟩) x2) := hide (rdV_again vs x2 (rdT_ws _ _).1 (rdT_ws _ _).2.1 (by rw [HTS.out.2]; have := HRL.out; omega) (by have h1 := (rdT_ws (wroteTr tr ⟨x2, ⟨#[]⟩, true⟩) x2).2.2.2; rw [HTS.out.2] at h1; have := HRL.out; omega))
                have HGA := hide (write_alone vs tr ⟨x2, ⟨#[]⟩, true⟩)
                by_cases hE0 : wrote tr ⟨x2, ⟨#[]⟩, true⟩ = 0
                · have HAG0 : Hid (rdV vs (wroteTr tr ⟨x2, ⟨#[]⟩, true⟩) x2 = (⟨#[]⟩, false, 0)) := hide (rdV_wrote vs hE0 (by have := HRL.out; omega))
                  rw [HAG0.out] at HAG
                  rw [hE0] at HGA
                  have HBx : Hid (Below wr.heap.size wr (wr.alloc (.cells #[.int .u8 5, .int .i64 1, .string x2, .string x3, .string x4] 40))) := hide ((Below.refl _ wr).alloc (Nat.le_refl _) _)
                  have HNx := hide (heap_alloc_new wr (.cells #[.int .u8 5, .int .i64 1, .string x2, .string x3, .string x4] 40))
                  have HMx := hide (HI.out.1.news HBx.out)
                  have HDO := hide ((by have := do_delete _ _ g _ HMx.out 1 (by omega) x2 x3 x4; rw [HGA.out] at this; exact this))
                  have HSx : Hid ((wr.alloc (.cells #[.int .u8 5, .int .i64 1, .string x2, .string x3, .string x4] 40)).heap.size = wr.heap.size + 1) := hide (World.size_alloc _ _)
                  go_wp2_with fail
                  generalize (wr.alloc (.cells #[.int .u8 5, .int .i64 1, .string x2, .string x3, .string x4] 40)) = V1 at *
                  refine HDO.out.mono ?_
                  rintro e V2 ⟨rfl, hM, hF⟩
                  have HM2 := hide hM
                  have HF2 := hide hF
                  have HN2 : Hid (V2.heap[wr.heap.size]? = some (.cells #[.int .u8 5, .int .i64 1, .string x2, .string x3, .string x4] 40 (0, 0))) := hide ((hF.block _ (heap_lt HNx.out) (fun hn => hn (.inr ⟨Nat.le_refl _, by have := HSx.out; omega⟩))).trans HNx.out)
                  clear hM hF HDO
                  have HBy : Hid (Below V2.heap.size V2 (V2.alloc (.cells #[.int .i64 (0), .int .i64 0, .string (⟨#[]⟩), .bool (false), .slice none 0 0, .slice none 0 0, .int .u64 0] 47))) := hide ((Below.refl _ V2).alloc (Nat.le_refl _) _)
                  have HNy := hide (heap_alloc_new V2 (.cells #[.int .i64 (0), .int .i64 0, .string (⟨#[]⟩), .bool (false), .slice none 0 0, .slice none 0 0, .int .u64 0] 47))
                  have HMy := hide (HM2.out.news HBy.out)
                  have HSy : Hid ((V2.alloc (.cells #[.int .i64 (0), .int .i64 0, .string (⟨#[]⟩), .bool (false), .slice none 0 0, .slice none 0 0, .int .u64 0] 47)).heap.size = V2.heap.size + 1) := hide (World.size_alloc _ _)
                  have HNxy : Hid ((V2.alloc (.cells #[.int .i64 (0), .int .i64 0, .string (⟨#[]⟩), .bool (false), .slice none 0 0, .slice none 0 0, .int .u64 0] 47)).heap[wr.heap.size]? = some (.cells #[.int .u8 5, .int .i64 1, .string x2, .string x3, .string x4] 40 (0, 0))) := hide ((HBy.out.block _ (heap_lt HN2.out)).trans HN2.out)
                  have HLx := hide (heap_lt HN2.out)
                  have x2c : (V2.alloc (.cells #[.int .i64 (0), .int .i64 0, .string (⟨#[]⟩), .bool (false), .slice none 0 0, .slice none 0 0, .int .u64 0] 47)).cell? ⟨wr.heap.size, 2, none⟩ = some (.string x2) := cell_blk HNxy.out rfl
                  have HG1 := hide (mn_get _ _ g _ HMy.out 1 (by omega) x2)
                  rw [get_alone] at HG1
                  dsimp only at HG1
                  rw [HAG0.out] at HG1
                  go_wp2_with fail
                  generalize (V2.alloc (.cells #[.int .i64 (0), .int .i64 0, .string (⟨#[]⟩), .bool (false), .slice none 0 0, .slice none 0 0, .int .u64 0] 47)) = V3 at *
                  refine HG1.out.mono ?_
                  rintro e V4 ⟨rfl, hM, hF⟩
                  have HM4 := hide hM
                  have HF4 := hide hF
                  have HN4x : Hid (V4.heap[wr.heap.size]? = some (.cells #[.int .u8 5, .int .i64 1, .string x2, .string x3, .string x4] 40 (0, 0))) := hide ((hF.block _ (heap_lt HNxy.out) (fun hn => hn (.inl (.inr ⟨Nat.le_refl _, by have := HSx.out; omega⟩)))).trans HNxy.out)
                  have HN4y : Hid (V4.heap[V2.heap.size]? = some (.cells #[.int .i64 (0), .int .i64 0, .string (⟨#[]⟩), .bool (false), .slice none 0 0, .slice none 0 0, .int .u64 0] 47 (0, 0))) := hide ((hF.block _ (heap_lt HNy.out) (fun hn => hn (.inr ⟨Nat.le_refl _, by have := HSy.out; omega⟩))).trans HNy.out)
                  clear hM hF HG1 x2c
                  have x2c : V4.cell? ⟨wr.heap.size, 2, none⟩ = some (.string x2) := cell_blk HN4x.out rfl
                  have HG2 := hide (mn_get _ _ g _ HM4.out 1 (by omega) x2)
                  rw [get_alone] at HG2
                  dsimp only at HG2
                  rw [HAG.out] at HG2
                  go_wp2_with fail
                  refine HG2.out.mono ?_
                  rintro e V5 ⟨rfl, hM, hF⟩
                  have HN5x : Hid (V5.heap[wr.heap.size]? = some (.cells #[.int .u8 5, .int .i64 1, .string x2, .string x3, .string x4] 40 (0, 0))) := hide ((hF.block _ (heap_lt HN4x.out) (fun hn => hn (.inl (.inr ⟨Nat.le_refl _, by have := HSx.out; omega⟩)))).trans HN4x.out)
                  have HN5y : Hid (V5.heap[V2.heap.size]? = some (.cells #[.int .i64 (0), .int .i64 0, .string (⟨#[]⟩), .bool (false), .slice none 0 0, .slice none 0 0, .int .u64 0] 47 (0, 0))) := hide ((hF.block _ (heap_lt HN4y.out) (fun hn => hn (.inr ⟨Nat.le_refl _, by have := HSy.out; omega⟩))).trans HN4y.out)
                  have HFIN : Hid (Mn (fun i => i < B) V5 g (aM vs (rdT (rdT (wroteTr tr ⟨x2, ⟨#[]⟩, true⟩) x2) x2)) ∧ Below B w2 V5 ∧ B ≤ V5.heap.size) := hide (by
                    have hb1 : Below B wr V5 := by
                      have q1 : Below B wr V1 := HBx.out.mono (by have := HI.out.2.2.2.2.2.2; omega)
                      have z1 : B ≤ V1.heap.size := Nat.le_trans HI.out.2.2.2.2.2.2 q1.size
                      have q2 : Below B V1 V2 := HF2.out.low (fun i hi => .inl hi) z1
                      have z2 := Nat.le_trans z1 q2.size
                      have q3 : Below B V2 V3 := HBy.out.mono z2
                      have z3 := Nat.le_trans z2 q3.size
                      have q4 : Below B V3 V4 := HF4.out.low (fun i hi => .inl (.inl hi)) z3
                      have z4 := Nat.le_trans z3 q4.size
                      have q5 : Below B V4 V5 := hF.low (fun i hi => .inl (.inl hi)) z4
                      exact (((q1.trans q2).trans q3).trans q4).trans q5
                    exact ⟨hM.mono (fun i hi => .inl (.inl hi)), HI.out.2.2.2.2.2.1.trans hb1, Nat.le_trans HI.out.2.2.2.2.2.2 hb1.size⟩)
                  clear hM hF HG2 x2c HM4 HF4 HMy HM2 HF2 HMx HBx HBy HNx HN2 HNy HNxy HN4x HN4y
                  have k0 : V5.cell? ⟨wr.heap.size, 0, none⟩ = some (.int .u8 5) := cell_blk HN5x.out rfl
                  have k4 : V5.cell? ⟨wr.heap.size, 4, none⟩ = some (.string x4) := cell_blk HN5x.out rfl
                  have y0 : V5.cell? ⟨V2.heap.size, 0, none⟩ = some (.int .i64 (0)) := cell_blk HN5y.out rfl
                  have y2 : V5.cell? ⟨V2.heap.size, 2, none⟩ = some (.string (⟨#[]⟩)) := cell_blk HN5y.out rfl
                  have y3 : V5.cell? ⟨V2.heap.size, 3, none⟩ = some (.bool (false)) := cell_blk HN5y.out rfl
                  have HNXT : Hid (Mn (fun i => i < B) V5 g (aM vs (rdT (rdT (wroteTr tr ⟨x2, ⟨#[]⟩, true⟩) x2) x2)) ∧ (rdT (rdT (wroteTr tr ⟨x2, ⟨#[]⟩, true⟩) x2) x2).began = 1 ∧ (rdT (rdT (wroteTr tr ⟨x2, ⟨#[]⟩, true⟩) x2) x2).reads.length ≤ 3 * min (k + 1) 61 ∧ SrtW (rdT (rdT (wroteTr tr ⟨x2, ⟨#[]⟩, true⟩) x2) x2).ws ∧ (rdT (rdT (wroteTr tr ⟨x2, ⟨#[]⟩, true⟩) x2) x2).ws.any longB = false ∧ Below B w2 V5 ∧ B ≤ V5.heap.size) := hide ⟨HFIN.out.1, by rw [(rdT_ws _ _).2.1, (rdT_ws _ _).2.1, HTS.out.1]; exact HI.out.2.1, by have h1 := (rdT_ws (wroteTr tr ⟨x2, ⟨#[]⟩, true⟩) x2).2.2.2; have h2 := (rdT_ws (rdT (wroteTr tr ⟨x2, ⟨#[]⟩, true⟩) x2) x2).2.2.2; rw [HTS.out.2] at h1; have h4 := HRL.out; omega, by rw [(rdT_ws _ _).1, (rdT_ws _ _).1]; exact wrote_srt HI.out.2.2.2.1, by rw [(rdT_ws _ _).1, (rdT_ws _ _).1]; exact wrote_long HI.out.2.2.2.2.1, HFIN.out.2.1, HFIN.out.2.2⟩
                  clear HFIN HN5x HN5y
                  go_wp2
                  go_roundw
                  case rel => exact ⟨k + 1, _, by omega, by simp, HNXT⟩
                  case measure => simp [intOf]; omega
                · obtain ⟨V, I, E1, hV⟩ : ∃ V I E1, rdV vs (wroteTr tr ⟨x2, ⟨#[]⟩, true⟩) x2 = (V, I, E1) := ⟨_, _, _, rfl⟩
                  have HAG0 := hide hV
                  rw [HAG0.out] at HAG
                  clear hV
                  obtain ⟨EW, hEW⟩ : ∃ EW, wrote tr ⟨x2, ⟨#[]⟩, true⟩ = EW := ⟨_, rfl⟩
                  rw [hEW] at HGA hE0
                  clear hEW
                  have hE1 : (EW == 0) = false := by simpa using hE0
                  have hE2 : decide (EW = 0) = false := decide_eq_false hE0
                  have HBx : Hid (Below wr.heap.size wr (wr.alloc (.cells #[.int .u8 5, .int .i64 1, .string x2, .string x3, .string x4] 40))) := hide ((Below.refl _ wr).alloc (Nat.le_refl _) _)
                  have HNx := hide (heap_alloc_new wr (.cells #[.int .u8 5, .int .i64 1, .string x2, .string x3, .string x4] 40))
                  have HMx := hide (HI.out.1.news HBx.out)
                  have HDO := hide ((by have := do_delete _ _ g _ HMx.out 1 (by omega) x2 x3 x4; rw [HGA.out] at this; exact this))
                  have HSx : Hid ((wr.alloc (.cells #[.int .u8 5, .int .i64 1, .string x2, .string x3, .string x4] 40)).heap.size = wr.heap.size + 1) := hide (World.size_alloc _ _)
                  go_wp2_with fail
                  generalize (wr.alloc (.cells #[.int .u8 5, .int .i64 1, .string x2, .string x3, .string x4] 40)) = V1 at *
                  refine HDO.out.mono ?_
                  rintro e V2 ⟨rfl, hM, hF⟩
                  have HM2 := hide hM
                  have HF2 := hide hF
                  have HN2 : Hid (V2.heap[wr.heap.size]? = some (.cells #[.int .u8 5, .int .i64 1, .string x2, .string x3, .string x4] 40 (0, 0))) := hide ((hF.block _ (heap_lt HNx.out) (fun hn => hn (.inr ⟨Nat.le_refl _, by have := HSx.out; omega⟩))).trans HNx.out)
                  clear hM hF HDO
                  have HBy : Hid (Below V2.heap.size V2 (V2.alloc (.cells #[.int .i64 (EW), .int .i64 0, .string (⟨#[]⟩), .bool (false), .slice none 0 0, .slice none 0 0, .int .u64 0] 47))) := hide ((Below.refl _ V2).alloc (Nat.le_refl _) _)
                  have HNy := hide (heap_alloc_new V2 (.cells #[.int .i64 (EW), .int .i64 0, .string (⟨#[]⟩), .bool (false), .slice none 0 0, .slice none 0 0, .int .u64 0] 47))
                  have HMy := hide (HM2.out.news HBy.out)
                  have HSy : Hid ((V2.alloc (.cells #[.int .i64 (EW), .int .i64 0, .string (⟨#[]⟩), .bool (false), .slice none 0 0, .slice none 0 0, .int .u64 0] 47)).heap.size = V2.heap.size + 1) := hide (World.size_alloc _ _)
                  have HNxy : Hid ((V2.alloc (.cells #[.int .i64 (EW), .int .i64 0, .string (⟨#[]⟩), .bool (false), .slice none 0 0, .slice none 0 0, .int .u64 0] 47)).heap[wr.heap.size]? = some (.cells #[.int .u8 5, .int .i64 1, .string x2, .string x3, .string x4] 40 (0, 0))) := hide ((HBy.out.block _ (heap_lt HN2.out)).trans HN2.out)
                  have HLx := hide (heap_lt HN2.out)
                  have x2c : (V2.alloc (.cells #[.int .i64 (EW), .int .i64 0, .string (⟨#[]⟩), .bool (false), .slice none 0 0, .slice none 0 0, .int .u64 0] 47)).cell? ⟨wr.heap.size, 2, none⟩ = some (.string x2) := cell_blk HNxy.out rfl
                  have HG1 := hide (mn_get _ _ g _ HMy.out 1 (by omega) x2)
                  rw [get_alone] at HG1
                  dsimp only at HG1
                  rw [HAG0.out] at HG1
                  go_wp2_with fail
                  generalize (V2.alloc (.cells #[.int .i64 (EW), .int .i64 0, .string (⟨#[]⟩), .bool (false), .slice none 0 0, .slice none 0 0, .int .u64 0] 47)) = V3 at *
                  refine HG1.out.mono ?_
                  rintro e V4 ⟨rfl, hM, hF⟩
                  have HM4 := hide hM
                  have HF4 := hide hF
                  have HN4x : Hid (V4.heap[wr.heap.size]? = some (.cells #[.int .u8 5, .int .i64 1, .string x2, .string x3, .string x4] 40 (0, 0))) := hide ((hF.block _ (heap_lt HNxy.out) (fun hn => hn (.inl (.inr ⟨Nat.le_refl _, by have := HSx.out; omega⟩)))).trans HNxy.out)
                  have HN4y : Hid (V4.heap[V2.heap.size]? = some (.cells #[.int .i64 (EW), .int .i64 0, .string (⟨#[]⟩), .bool (false), .slice none 0 0, .slice none 0 0, .int .u64 0] 47 (0, 0))) := hide ((hF.block _ (heap_lt HNy.out) (fun hn => hn (.inr ⟨Nat.le_refl _, by have := HSy.out; omega⟩))).trans HNy.out)
                  clear hM hF HG1 x2c
                  have x2c : V4.cell? ⟨wr.heap.size, 2, none⟩ = some (.string x2) := cell_blk HN4x.out rfl
                  have HG2 := hide (mn_get _ _ g _ HM4.out 1 (by omega) x2)
                  rw [get_alone] at HG2
                  dsimp only at HG2
                  rw [HAG.out] at HG2
                  go_wp2_with fail
                  refine HG2.out.mono ?_
                  rintro e V5 ⟨rfl, hM, hF⟩
                  have HN5x : Hid (V5.heap[wr.heap.size]? = some (.cells #[.int .u8 5, .int .i64 1, .string x2, .string x3, .string x4] 40 (0, 0))) := hide ((hF.block _ (heap_lt HN4x.out) (fun hn => hn (.inl (.inr ⟨Nat.le_refl _, by have := HSx.out; omega⟩)))).trans HN4x.out)
                  have HN5y : Hid (V5.heap[V2.heap.size]? = some (.cells #[.int .i64 (EW), .int .i64 0, .string (⟨#[]⟩), .bool (false), .slice none 0 0, .slice none 0 0, .int .u64 0] 47 (0, 0))) := hide ((hF.block _ (heap_lt HN4y.out) (fun hn => hn (.inr ⟨Nat.le_refl _, by have := HSy.out; omega⟩))).trans HN4y.out)
                  have HFIN : Hid (Mn (fun i => i < B) V5 g (aM vs (rdT (rdT (wroteTr tr ⟨x2, ⟨#[]⟩, true⟩) x2) x2)) ∧ Below B w2 V5 ∧ B ≤ V5.heap.size) := hide (by
                    have hb1 : Below B wr V5 := by
                      have q1 : Below B wr V1 := HBx.out.mono (by have := HI.out.2.2.2.2.2.2; omega)
                      have z1 : B ≤ V1.heap.size := Nat.le_trans HI.out.2.2.2.2.2.2 q1.size
                      have q2 : Below B V1 V2 := HF2.out.low (fun i hi => .inl hi) z1
                      have z2 := Nat.le_trans z1 q2.size
                      have q3 : Below B V2 V3 := HBy.out.mono z2
                      have z3 := Nat.le_trans z2 q3.size
                      have q4 : Below B V3 V4 := HF4.out.low (fun i hi => .inl (.inl hi)) z3
                      have z4 := Nat.le_trans z3 q4.size
                      have q5 : Below B V4 V5 := hF.low (fun i hi => .inl (.inl hi)) z4
                      exact (((q1.trans q2).trans q3).trans q4).trans q5
                    exact ⟨hM.mono (fun i hi => .inl (.inl hi)), HI.out.2.2.2.2.2.1.trans hb1, Nat.le_trans HI.out.2.2.2.2.2.2 hb1.size⟩)
                  clear hM hF HG2 x2c HM4 HF4 HMy HM2 HF2 HMx HBx HBy HNx HN2 HNy HNxy HN4x HN4y
                  have k0 : V5.cell? ⟨wr.heap.size, 0, none⟩ = some (.int .u8 5) := cell_blk HN5x.out rfl
                  have k4 : V5.cell? ⟨wr.heap.size, 4, none⟩ = some (.string x4) := cell_blk HN5x.out rfl
                  have y0 : V5.cell? ⟨V2.heap.size, 0, none⟩ = some (.int .i64 (EW)) := cell_blk HN5y.out rfl
                  have y2 : V5.cell? ⟨V2.heap.size, 2, none⟩ = some (.string (⟨#[]⟩)) := cell_blk HN5y.out rfl
                  have y3 : V5.cell? ⟨V2.heap.size, 3, none⟩ = some (.bool (false)) := cell_blk HN5y.out rfl
                  have HNXT : Hid (Mn (fun i => i < B) V5 g (aM vs (rdT (rdT (wroteTr tr ⟨x2, ⟨#[]⟩, true⟩) x2) x2)) ∧ (rdT (rdT (wroteTr tr ⟨x2, ⟨#[]⟩, true⟩) x2) x2).began = 1 ∧ (rdT (rdT (wroteTr tr ⟨x2, ⟨#[]⟩, true⟩) x2) x2).reads.length ≤ 3 * min (k + 1) 61 ∧ SrtW (rdT (rdT (wroteTr tr ⟨x2, ⟨#[]⟩, true⟩) x2) x2).ws ∧ (rdT (rdT (wroteTr tr ⟨x2, ⟨#[]⟩, true⟩) x2) x2).ws.any longB = false ∧ Below B w2 V5 ∧ B ≤ V5.heap.size) := hide ⟨HFIN.out.1, by rw [(rdT_ws _ _).2.1, (rdT_ws _ _).2.1, HTS.out.1]; exact HI.out.2.1, by have h1 := (rdT_ws (wroteTr tr ⟨x2, ⟨#[]⟩, true⟩) x2).2.2.2; have h2 := (rdT_ws (rdT (wroteTr tr ⟨x2, ⟨#[]⟩, true⟩) x2) x2).2.2.2; rw [HTS.out.2] at h1; have h4 := HRL.out; omega, by rw [(rdT_ws _ _).1, (rdT_ws _ _).1]; exact wrote_srt HI.out.2.2.2.1, by rw [(rdT_ws _ _).1, (rdT_ws _ _).1]; exact wrote_long HI.out.2.2.2.2.1, HFIN.out.2.1, HFIN.out.2.2⟩
                  clear HFIN HN5x HN5y
                  go_wp2
                  go_roundw
                  case rel => exact ⟨k + 1, _, by omega, by simp, HNXT⟩
                  case measure => simp [intOf]; omega
              · have n2a : ¬ (xk : Int) = 2 := by omega
                have n2b : ((xk : Int) == 2) = false := by simp; omega
                have n2c : (xk == 2) = false := by simp; omega
                have n2d : decide ((xk : Int) = 2) = false := decide_eq_false (by omega)
                have n4a : ¬ (xk : Int) = 4 := by omega
                have n4b : ((xk : Int) == 4) = false := by simp; omega
                have n4c : (xk == 4) = false := by simp; omega
                have n4d : decide ((xk : Int) = 4) = false := decide_eq_false (by omega)
                have n5a : ¬ (xk : Int) = 5 := by omega
                have n5b : ((xk : Int) == 5) = false := by simp; omega
                have n5c : (xk == 5) = false := by simp; omega
                have n5d : decide ((xk : Int) = 5) = false := decide_eq_false (by omega)
                have HBx : Hid (Below wr.heap.size wr (wr.alloc (.cells #[.int .u8 (xk : Nat), .int .i64 1, .string x2, .string x3, .string x4] 40))) := hide ((Below.refl _ wr).alloc (Nat.le_refl _) _)
                have HNXT : Hid (Mn (fun i => i < B) (wr.alloc (.cells #[.int .u8 (xk : Nat), .int .i64 1, .string x2, .string x3, .string x4] 40)) g (aM vs tr) ∧ tr.began = 1 ∧ tr.reads.length ≤ 3 * min (k + 1) 61 ∧ SrtW tr.ws ∧ tr.ws.any longB = false ∧ Below B w2 (wr.alloc (.cells #[.int .u8 (xk : Nat), .int .i64 1, .string x2, .string x3, .string x4] 40)) ∧ B ≤ (wr.alloc (.cells #[.int .u8 (xk : Nat), .int .i64 1, .string x2, .string x3, .string x4] 40)).heap.size) := hide ⟨HI.out.1.below HBx.out, HI.out.2.1, by have := HI.out.2.2.1; omega, HI.out.2.2.2.1, HI.out.2.2.2.2.1, HI.out.2.2.2.2.2.1.trans (HBx.out.mono HI.out.2.2.2.2.2.2), Nat.le_trans HI.out.2.2.2.2.2.2 HBx.out.size⟩
                clear HBx
                go_wp2
                go_roundw
                case rel => exact ⟨k + 1, _, by omega, by simp, HNXT⟩
                case measure => simp [intOf]; omega
        · have hkd : decide ((60 : Int) < (k : Int)) = true := decide_eq_true (by omega)
          have hkn : (60 : Int) < (k : Int) := by omega
          by_cases e2 : xk = 2
          · subst e2
            have HBx : Hid (Below wr.heap.size wr (wr.alloc (.cells #[.int .u8 2, .int .i64 1, .string x2, .string x3, .string x4] 40))) := hide ((Below.refl _ wr).alloc (Nat.le_refl _) _)
            have HNXT : Hid (Mn (fun i => i < B) (wr.alloc (.cells #[.int .u8 2, .int .i64 1, .string x2, .string x3, .string x4] 40)) g (aM vs tr) ∧ tr.began = 1 ∧ tr.reads.length ≤ 3 * min (k + 1) 61 ∧ SrtW tr.ws ∧ tr.ws.any longB = false ∧ Below B w2 (wr.alloc (.cells #[.int .u8 2, .int .i64 1, .string x2, .string x3, .string x4] 40)) ∧ B ≤ (wr.alloc (.cells #[.int .u8 2, .int .i64 1, .string x2, .string x3, .string x4] 40)).heap.size) := hide ⟨HI.out.1.below HBx.out, HI.out.2.1, by have := HI.out.2.2.1; omega, HI.out.2.2.2.1, HI.out.2.2.2.2.1, HI.out.2.2.2.2.2.1.trans (HBx.out.mono HI.out.2.2.2.2.2.2), Nat.le_trans HI.out.2.2.2.2.2.2 HBx.out.size⟩
            clear HBx
            go_wp2
            go_roundw
            case rel => exact ⟨k + 1, _, by omega, by simp, HNXT⟩
            case measure => simp [intOf]; omega
          · by_cases e4 : xk = 4
            · subst e4
              have HBx : Hid (Below wr.heap.size wr (wr.alloc (.cells #[.int .u8 4, .int .i64 1, .string x2, .string x3, .string x4] 40))) := hide ((Below.refl _ wr).alloc (Nat.le_refl _) _)
              have HNXT : Hid (Mn (fun i => i < B) (wr.alloc (.cells #[.int .u8 4, .int .i64 1, .string x2, .string x3, .string x4] 40)) g (aM vs tr) ∧ tr.began = 1 ∧ tr.reads.length ≤ 3 * min (k + 1) 61 ∧ SrtW tr.ws ∧ tr.ws.any longB = false ∧ Below B w2 (wr.alloc (.cells #[.int .u8 4, .int .i64 1, .string x2, .string x3, .string x4] 40)) ∧ B ≤ (wr.alloc (.cells #[.int .u8 4, .int .i64 1, .string x2, .string x3, .string x4] 40)).heap.size) := hide ⟨HI.out.1.below HBx.out, HI.out.2.1, by have := HI.out.2.2.1; omega, HI.out.2.2.2.1, HI.out.2.2.2.2.1, HI.out.2.2.2.2.2.1.trans (HBx.out.mono HI.out.2.2.2.2.2.2), Nat.le_trans HI.out.2.2.2.2.2.2 HBx.out.size⟩
              clear HBx
              go_wp2
              go_roundw
              case rel => exact ⟨k + 1, _, by omega, by simp, HNXT⟩
              case measure => simp [intOf]; omega
            · by_cases e5 : xk = 5
              · subst e5
                have HBx : Hid (Below wr.heap.size wr (wr.alloc (.cells #[.int .u8 5, .int .i64 1, .string x2, .string x3, .string x4] 40))) := hide ((Below.refl _ wr).alloc (Nat.le_refl _) _)
                have HNXT : Hid (Mn (fun i => i < B) (wr.alloc (.cells #[.int .u8 5, .int .i64 1, .string x2, .string x3, .string x4] 40)) g (aM vs tr) ∧ tr.began = 1 ∧ tr.reads.length ≤ 3 * min (k + 1) 61 ∧ SrtW tr.ws ∧ tr.ws.any longB = false ∧ Below B w2 (wr.alloc (.cells #[.int .u8 5, .int .i64 1, .string x2, .string x3, .string x4] 40)) ∧ B ≤ (wr.alloc (.cells #[.int .u8 5, .int .i64 1, .string x2, .string x3, .string x4] 40)).heap.size) := hide ⟨HI.out.1.below HBx.out, HI.out.2.1, by have := HI.out.2.2.1; omega, HI.out.2.2.2.1, HI.out.2.2.2.2.1, HI.out.2.2.2.2.2.1.trans (HBx.out.mono HI.out.2.2.2.2.2.2), Nat.le_trans HI.out.2.2.2.2.2.2 HBx.out.size⟩
                clear HBx
                go_wp2
                go_roundw
                case rel => exact ⟨k + 1, _, by omega, by simp, HNXT⟩
                case measure => simp [intOf]; omega
              · have n2a : ¬ (xk : Int) = 2 := by omega
                have n2b : ((xk : Int) == 2) = false := by simp; omega
                have n2c : (xk == 2) = false := by simp; omega
                have n2d : decide ((xk : Int) = 2) = false := decide_eq_false (by omega)
                have n4a : ¬ (xk : Int) = 4 := by omega
                have n4b : ((xk : Int) == 4) = false := by simp; omega
                have n4c : (xk == 4) = false := by simp; omega
                have n4d : decide ((xk : Int) = 4) = false := decide_eq_false (by omega)
                have n5a : ¬ (xk : Int) = 5 := by omega
                have n5b : ((xk : Int) == 5) = false := by simp; omega
                have n5c : (xk == 5) = false := by simp; omega
                have n5d : decide ((xk : Int) = 5) = false := decide_eq_false (by omega)
                have HBx : Hid (Below wr.heap.size wr (wr.alloc (.cells #[.int .u8 (xk : Nat), .int .i64 1, .string x2, .string x3, .string x4] 40))) := hide ((Below.refl _ wr).alloc (Nat.le_refl _) _)
                have HNXT : Hid (Mn (fun i => i < B) (wr.alloc (.cells #[.int .u8 (xk : Nat), .int .i64 1, .string x2, .string x3, .string x4] 40)) g (aM vs tr) ∧ tr.began = 1 ∧ tr.reads.length ≤ 3 * min (k + 1) 61 ∧ SrtW tr.ws ∧ tr.ws.any longB = false ∧ Below B w2 (wr.alloc (.cells #[.int .u8 (xk : Nat), .int .i64 1, .string x2, .string x3, .string x4] 40)) ∧ B ≤ (wr.alloc (.cells #[.int .u8 (xk : Nat), .int .i64 1, .string x2, .string x3, .string x4] 40)).heap.size) := hide ⟨HI.out.1.below HBx.out, HI.out.2.1, by have := HI.out.2.2.1; omega, HI.out.2.2.2.1, HI.out.2.2.2.2.1, HI.out.2.2.2.2.2.1.trans (HBx.out.mono HI.out.2.2.2.2.2.2), Nat.le_trans HI.out.2.2.2.2.2.2 HBx.out.size⟩
                clear HBx
                go_wp2
                go_roundw
                case rel => exact ⟨k + 1, _, by omega, by simp, HNXT⟩
                case measure => simp [intOf]; omega
      · obtain rfl : k = sn := by omega
        have hkk : ¬ (k : Int) < (k : Int) := by omega
        have HCM := hide (mn_commit (fun i => i < B) wr g _ HI.out.1 1 (by omega) (by show (1 : Nat) + 1 < _; omega))
        have HAL : Hid ((mCommit (aM vs tr) 1).2.2.2 = 0 ∨ ((mCommit (aM vs tr) 1).2.2.2 = 3 ∧ 3840 < len)) := hide (by
          have := commit_alone HE.out HI.out.2.1 HI.out.2.2.2.1 (HI.out.1.few (1, tr) (List.mem_cons_self ..)).2 HI.out.2.2.2.2.1
          rw [HVS.out, HLN.out] at this
          exact this)
        generalize mCommit (aM vs tr) 1 = C at *
        obtain ⟨C1, C2, C3, C4⟩ := C
        dsimp only at HCM HAL
        go_wp2_with fail
        refine HCM.out.mono ?_
        rintro e w9 ⟨v9, rfl, hr9, hM9, hF9⟩
        have HB9 := hide (HI'.out.trans ((hF9.low (B := B) (fun i h => h) HI.out.2.2.2.2.2.2).mono HWB.out))
        obtain ⟨a9, c9, rfl⟩ := own_form hr9
        clear hr9 hM9 hF9 HCM
        rcases HAL.out with h0 | ⟨h0, h3⟩
        · subst h0
          go_wp2
          go_ret
          exact ⟨rfl, HB9.out⟩
        · subst h0
          have hd : (3840 : Int) < (len : Int) := by omega
          go_wp2
          go_ret
          exact ⟨rfl, HB9.out⟩
end Go.Proofs.YtlkmcbelmldleaaGreat

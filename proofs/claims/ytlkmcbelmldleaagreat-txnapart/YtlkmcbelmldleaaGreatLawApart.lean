/- TxnApart, walked -/
import Derived.Test.YtlkmcbelmldleaaGreatDx2
import Derived.Test.YtlkmcbelmldleaaGreatCx6
namespace Go.Proofs.YtlkmcbelmldleaaGreat
open Go.RowKit
set_option maxRecDepth 40000
set_option maxHeartbeats 16000000 in
theorem apart_law (a : Option Addr) (len cap : Nat) (l : List Pr) (sa : Option Addr) (sn sc : Nat) (sl : List Sx) (key : ByteArray) (w : World) (hL : IsP w a len cap l) (hbig : len * 40 ≤ 140737488355328) (hS : IsSt w sa sn sc sl) (hsn : sn * 64 ≤ 140737488355328) :
    Calls Tryz.prog 10 #[.slice a len cap, .slice sa sn sc, .string key] w fun e w' => e = .returned (.bool true) ∧ Below w.heap.size w w' := by
  have HL := hide hL
  have HSS := hide hS
  have hscm : sc ≤ 9223372036854775807 := hS.2.2.1
  have hsc := hS.2.1
  have HBIG := hide hbig
  clear hL hS hbig
  go_enter Tryz.func10, Tryz.ntmps10
  go_wp2_with fail
  refine (lives_any _).mono ?_
  rintro e w0 ⟨rfl, hb0⟩
  have HB0 := hide hb0
  have HNW := hide (mn_new a len cap l w0 (HL.out.below hb0) HBIG.out)
  clear hb0
  go_wp2_with fail
  refine HNW.out.mono ?_
  rintro e w1 ⟨ptr, rfl, h1, h2, hb1⟩
  have HB1 := hide (HB0.out.trans (hb1.mono HB0.out.size))
  have HZ1 := hide hb1.size
  clear HNW
  by_cases hE : newE l = 0
  case neg =>
    obtain rfl := h2 hE
    clear h1 h2
    have hE2 : (newE l == 0) = false := by simpa using hE
    have hE3 : decide (newE l = 0) = false := decide_eq_false hE
    have hE4 : (newE l != 0) = true := by simpa using hE
    generalize newE l = E at *
    go_wp2
    go_ret
    exact ⟨rfl, HB1.out⟩
  case pos =>
    obtain ⟨g, rfl, hM⟩ := h1 hE
    rw [hE]
    rw [new_M hE] at hM
    have HE := hide hE
    have HM1 := hide hM
    clear h1 h2 hE hM hb1
    generalize hB : w0.heap.size = B at *
    have HWB : Hid (w.heap.size ≤ B) := hide (by rw [← hB]; exact HB0.out.size)
    clear hB
    have HBG := hide (mn_begin (fun i => i < B) w1 g _ HM1.out (by show (0 : Nat) + 1 < _; omega))
    rw [begin_alone] at HBG
    dsimp only at HBG
    go_wp2_with fail
    refine HBG.out.mono ?_
    rintro e w2 ⟨rfl, hM, hF⟩
    have hb2 := hF.low (B := B) (fun i h => h) HZ1.out
    have HB2 := hide (HB1.out.trans (hb2.mono HWB.out))
    have HZ2 := hide (Nat.le_trans HZ1.out hb2.size)
    have HM2 := hide hM
    clear hM hF hb2 HBG HM1
    have HGT := hide (mn_get (fun i => i < B) w2 g _ HM2.out 1 (by omega) key)
    rw [get_alone] at HGT
    dsimp only at HGT
    have HFI := hide (got_first (vsN l) key)
    have HAP := hide (ap_start HE.out key)
    obtain ⟨R0, hR0⟩ : ∃ R0, getR 1 (vsN l) key 1 = R0 := ⟨_, rfl⟩
    rw [hR0] at HFI HAP
    obtain ⟨RV, RI, RE, hRR⟩ : ∃ V I E, (if 256 < key.size then ((⟨#[]⟩ : ByteArray), false, (4 : Int)) else R0) = (V, I, E) := ⟨_, _, _, rfl⟩
    have HRR := hide hRR
    rw [HRR.out] at HFI
    rw [HFI.out] at HGT
    clear hR0 hRR
    go_wp2_with fail
    refine HGT.out.mono ?_
    rintro e w3 ⟨rfl, hM, hF⟩
    have hb3 := hF.low (B := B) (fun i h => h) HZ2.out
    have HB3 := hide (HB2.out.trans (hb3.mono HWB.out))
    have HZ3 := hide (Nat.le_trans HZ2.out hb3.size)
    have HM3 := hide hM
    clear hM hF hb3 HGT HM2
    go_wp2
    go_loopw [53] (fun v53 wr => ∃ (k : Nat) (ms : Mg), k ≤ sn ∧ v53 = .int .i64 (k : Nat) ∧ Hid (Mn (fun i => i < B) wr g ms ∧ Ap key R0 (rdT ⟨1, [], []⟩ key) ms ∧ ms.last ≤ 1 + k ∧ ms.now ≤ 1 + k ∧ Below B w3 wr ∧ B ≤ wr.heap.size)) (fun v53 _ => sn - (intOf v53).toNat)
    case atStart => exact ⟨0, _, Nat.zero_le _, rfl, hide ⟨HM3.out, HAP.out, Nat.le_refl _, Nat.le_refl _, Below.refl _ _, HZ3.out⟩⟩
    case round =>
      obtain ⟨k, ms, hk, rfl, HI⟩ := hrel
      have HI' : Hid (Below w.heap.size w wr) := hide (HB3.out.trans (HI.out.2.2.2.2.1.mono HWB.out))
      by_cases hlt : k < sn
      · obtain ⟨ht, b, off, rfl, hbs, z0, z1, z2, z3, z4⟩ := (HSS.out.below HI'.out).2.2.2 k hlt
        generalize sl.getD k Sx0 = x at *
        obtain ⟨xk, xt, x2, x3, x4⟩ := x
        dsimp only at z0 z1 z2 z3 z4 ht
        have hw1 : IntKind.i64.wrap ((k : Int) + 1) = (k : Int) + 1 := wr64' (by omega) (by omega)
        have hi4 : (0 : Int) ≤ (k : Int) := by omega
        have hiI : (k : Int) < (sn : Int) := by omega
        obtain ⟨xu, hxu⟩ : ∃ xu, IntKind.i64.wrap (xt + 1) = xu := ⟨_, rfl⟩
        have HXU : Hid (-9223372036854775808 ≤ xu ∧ xu ≤ 9223372036854775807) := hide (by rw [← hxu, IntKind.wrap_i64]; omega)
        have HBx : Hid (Below wr.heap.size wr (wr.alloc (.cells #[.int .u8 (xk : Nat), .int .i64 xu, .string x2, .string x3, .string x4] 40))) := hide ((Below.refl _ wr).alloc (Nat.le_refl _) _)
        have HNx := hide (heap_alloc_new wr (.cells #[.int .u8 (xk : Nat), .int .i64 xu, .string x2, .string x3, .string x4] 40))
        have HMx := hide (HI.out.1.news HBx.out)
        have HDO := hide (do_any _ _ g ms HMx.out xk xu HXU.out x2 x3 x4 (by have := HI.out.2.2.1; omega) (by have := HI.out.2.2.2.1; omega))
        have HSx : Hid ((wr.alloc (.cells #[.int .u8 (xk : Nat), .int .i64 xu, .string x2, .string x3, .string x4] 40)).heap.size = wr.heap.size + 1) := hide (World.size_alloc _ _)
        go_wp2_with fail
        generalize (wr.alloc (.cells #[.int .u8 (xk : Nat), .int .i64 xu, .string x2, .string x3, .string x4] 40)) = V1 at *
        refine HDO.out.mono ?_
        rintro e V2 ⟨⟨v2, rfl⟩, hM, hF⟩
        have HN2 : Hid (V2.heap[wr.heap.size]? = some (.cells #[.int .u8 (xk : Nat), .int .i64 xu, .string x2, .string x3, .string x4] 40 (0, 0))) := hide ((hF.block _ (heap_lt HNx.out) (fun hn => hn (.inr ⟨Nat.le_refl _, by have := HSx.out; omega⟩))).trans HNx.out)
        have HFIN : Hid (Mn (fun i => i < B) V2 g (mDo ms xk xu x2 x3 x4) ∧ Below B w3 V2 ∧ B ≤ V2.heap.size) := hide (by
          have q1 : Below B wr V1 := HBx.out.mono HI.out.2.2.2.2.2
          have z1 : B ≤ V1.heap.size := Nat.le_trans HI.out.2.2.2.2.2 q1.size
          have q2 : Below B V1 V2 := hF.low (fun i hi => .inl hi) z1
          exact ⟨hM.mono (fun i hi => .inl hi), HI.out.2.2.2.2.1.trans (q1.trans q2), Nat.le_trans z1 q2.size⟩)
        clear hM hF HDO HMx HBx HNx hxu
        have c1 : V2.cell? ⟨wr.heap.size, 1, none⟩ = some (.int .i64 xu) := cell_blk HN2.out rfl
        by_cases hx1 : xu = 1
        · subst hx1
          have HEND : Hid (Below w.heap.size w V2) := hide (HB3.out.trans (HFIN.out.2.1.mono HWB.out))
          go_wp2
          go_ret
          exact ⟨rfl, HEND.out⟩
        · have hx2 : (xu == 1) = false := by simpa using hx1
          have hx3 : decide (xu = 1) = false := decide_eq_false hx1
          have HNXT : Hid (Mn (fun i => i < B) V2 g (mDo ms xk xu x2 x3 x4) ∧ Ap key R0 (rdT ⟨1, [], []⟩ key) (mDo ms xk xu x2 x3 x4) ∧ (mDo ms xk xu x2 x3 x4).last ≤ 1 + (k + 1) ∧ (mDo ms xk xu x2 x3 x4).now ≤ 1 + (k + 1) ∧ Below B w3 V2 ∧ B ≤ V2.heap.size) := hide ⟨HFIN.out.1, HI.out.2.1.does hx1 xk x2 x3 x4, by have h1 := (does_nums ms xk xu x2 x3 x4).1; have h2 := HI.out.2.2.1; omega, by have h1 := (does_nums ms xk xu x2 x3 x4).2; have h2 := HI.out.2.2.2.1; omega, HFIN.out.2.1, HFIN.out.2.2⟩
          clear HFIN
          go_wp2
          go_roundw
          case rel => exact ⟨k + 1, _, by omega, by simp, HNXT⟩
          case measure => simp [intOf]; omega
      · obtain rfl : k = sn := by omega
        have hkk : ¬ (k : Int) < (k : Int) := by omega
        have HG2 := hide (mn_get (fun i => i < B) wr g ms HI.out.1 1 (by omega) key)
        have HLT := hide (got_last HI.out.2.1)
        rw [HRR.out] at HLT
        rw [HLT.out] at HG2
        dsimp only at HG2
        go_wp2_with fail
        refine HG2.out.mono ?_
        rintro e w9 ⟨rfl, _, hF9⟩
        have HB9 := hide (HI'.out.trans ((hF9.low (B := B) (fun i h => h) HI.out.2.2.2.2.2).mono HWB.out))
        clear hF9 HG2
        go_wp2
        go_ret
        exact ⟨rfl, HB9.out⟩
end Go.Proofs.YtlkmcbelmldleaaGreat

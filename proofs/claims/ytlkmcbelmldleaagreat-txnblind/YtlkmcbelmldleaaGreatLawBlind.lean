/- TxnBlind, walked -/
import Derived.Test.YtlkmcbelmldleaaGreatDx4
import Derived.Test.YtlkmcbelmldleaaGreatCx6
namespace Go.Proofs.YtlkmcbelmldleaaGreat
open Go.RowKit
set_option maxRecDepth 40000
set_option linter.unusedVariables false
set_option linter.unusedSimpArgs false
set_option maxHeartbeats 64000000 in
theorem blind_law (a : Option Addr) (len cap : Nat) (l : List Pr) (wa : Option Addr) (wn wc : Nat) (wl : List (List Wt)) (oa : Option Addr) (on oc : Nat) (ol : List Int) (w : World) (hL : IsP w a len cap l) (hnn : a = none → cap = 0) (hbig : len * 40 ≤ 140737488355328) (hW : IsWW w wa wn wc wl) (hO : IsN w oa on oc ol) :
    Calls Tryz.prog 8 #[.slice a len cap, .slice wa wn wc, .slice oa on oc] w fun e w' => e = .returned (.bool true) ∧ Below w.heap.size w w' := by
  have HL := hide hL
  have HLN := hide hL.1
  have HNN := hide hnn
  have HWW := hide hW
  have HOO := hide hO
  have hwcm : wc ≤ 9223372036854775807 := hW.2.2.1
  have hwc := hW.2.1
  have hocm : oc ≤ 9223372036854775807 := hO.2.2.1
  have hoc := hO.2.1
  have HBIG := hide hbig
  clear hL hW hO hbig hnn
  go_enter Tryz.func8, Tryz.ntmps8
  go_wp2_with fail
  refine (lives_any _).mono ?_
  rintro e w0 ⟨rfl, hb0⟩
  have HB0 := hide hb0
  have HNW := hide (mn_new a len cap l w0 (HL.out.below hb0) HBIG.out)
  clear hb0
  go_wp2_with fail
  refine HNW.out.mono ?_
  rintro e w1 ⟨ptr, rfl, h1, h2, hb1⟩
  have HB1 := hide (HB0.out.trans (hb1.mono HB0.out.size))
  have HZ1 := hide hb1.size
  clear HNW
  by_cases hE : newE l = 0
  case neg =>
    obtain rfl := h2 hE
    clear h1 h2
    have hE2 : (newE l == 0) = false := by simpa using hE
    have hE3 : decide (newE l = 0) = false := decide_eq_false hE
    have hE4 : (newE l != 0) = true := by simpa using hE
    generalize newE l = E at *
    go_wp2
    go_ret
    exact ⟨rfl, HB1.out⟩
  case pos =>
    obtain ⟨g, rfl, hM⟩ := h1 hE
    rw [hE]
    rw [new_M hE] at hM
    have HLF := hide (new_few hE)
    have HGD0 := hide (gd_start hE)
    have HNI0 := hide (NowIs.start hE)
    have HM1 := hide hM
    clear h1 h2 hE hM hb1
    generalize hB : w0.heap.size = B at *
    have HWB : Hid (w.heap.size ≤ B) := hide (by rw [← hB]; exact HB0.out.size)
    clear hB
    have HBa : Hid (Below w1.heap.size w1 (w1.alloc (.cells #[] 62))) := hide ((Below.refl _ w1).alloc (Nat.le_refl _) _)
    have HOa : Hid ((w1.alloc (.cells #[] 62)).ownsRow w1.heap.size 62 2 (.slice (some ⟨w1.heap.size, 0, none⟩) 0 0) 0 (([] : List Pr).flatMap prc)) := hide (World.ownsRow_made w1 #[] 0 (Nat.le_refl _) (by decide) rfl)
    have HAP := hide (run_pairs a HOa.out (HL.out.below (HB1.out.trans (HBa.out.mono HB1.out.size))) HNN.out (by have := HBIG.out; omega) HBa.out.size)
    obtain ⟨v9, w2, hr2, ho2, hb2⟩ := HAP.out
    obtain ⟨X0, hS0⟩ := BS.start HM1.out HZ1.out (HBa.out.trans hb2) (v9 := v9) (now := l) (by rw [HLN.out]; simpa using ho2)
    obtain ⟨a9, c9, rfl⟩ := own_form ho2
    rw [Nat.zero_add] at hr2 hS0
    have HS0 := hide hS0
    have HBL0 : Hid (Bl ⟨1, vsN l, 1, 0, []⟩ []) := hide ⟨rfl, fun x hx => by cases hx⟩
    clear ho2 hb2 HAP HOa HM1 hS0
    go_wp2_with (at_builtin; refine wpList_append_eq rfl _ _ 22 rfl rfl rfl hr2 ?_)
    go_wp2
    clear hr2
    go_loopw [10, 49] (fun v10 v49 wr => ∃ (k : Nat) (ms : Mg) (X : Nat → Prop) (ids : List Int), k ≤ wn ∧ k ≤ 16 ∧ v49 = .int .i64 (k : Nat) ∧ Hid (BS B w1 wr g ms X (.slice a9 len c9) v10 l ids ∧ Bl ms ids ∧ ids.length = k ∧ ms.last = k ∧ ms.now = 1 ∧ Gd ms ∧ NowIs ms l)) (fun _ v49 _ => wn - (intOf v49).toNat)
    case atStart => exact ⟨0, _, X0, [], Nat.zero_le _, Nat.zero_le _, rfl, hide ⟨HS0.out, HBL0.out, rfl, rfl, rfl, HGD0.out, HNI0.out⟩⟩
    case round =>
      obtain ⟨k, ms, X, ids, hk, hk16, rfl, HI⟩ := hrel
      obtain ⟨a10, c10, rfl⟩ := own_form HI.out.1.r10
      have HI' : Hid (Below w.heap.size w wr) := hide (HB1.out.trans (HI.out.1.lo.mono HWB.out))
      have hlen : ids.length = k := HI.out.2.2.1
      rw [hlen]
      by_cases hlt : k < wn
      · obtain ⟨b, off, a', n', c', rfl, hbs, z0', hW'⟩ := HWW.out.2.2.2 k hlt
        have z0 : wr.cell? ⟨b, off + k, none⟩ = some (.slice a' n' c') := (World.cell?_of_block (HI'.out.block b hbs)).trans z0'
        have HW' := hide hW'
        have hncm : c' ≤ 9223372036854775807 := hW'.2.2.1
        have hnc := hW'.2.1
        clear hW' z0'
        have hw1 : IntKind.i64.wrap ((k : Int) + 1) = (k : Int) + 1 := wr64' (by omega) (by omega)
        have hi4 : (0 : Int) ≤ (k : Int) := by omega
        have hiI : (k : Int) < (wn : Int) := by omega
        by_cases h16 : k = 16
        · have hx1 : ((k : Int) == 16) = true := by simp; omega
          have H16 := hide h16
          clear h16
          go_wp2
          go_loopw [9, 10, 17] (fun v9 v10 v17 wr => ∃ (i : Nat) (ms : Mg) (X : Nat → Prop) (now : List Pr) (ids : List Int), i ≤ 16 ∧ v17 = .int .i64 (i : Nat) ∧ Hid (BS B w1 wr g ms X v9 v10 now ids ∧ Bl ms ids ∧ ids.length + i ≤ 16 ∧ ms.last ≤ 16 ∧ ms.now ≤ 1 + i ∧ now.length ≤ 4096 + 256 * i ∧ Gd ms ∧ NowIs ms now)) (fun _ v10 _ _ => slLen v10)
          case atStart => exact ⟨0, ms, X, l, ids, Nat.zero_le _, rfl, hide ⟨by have := HI.out.1; rw [hlen] at this; exact this, HI.out.2.1, by have := HI.out.2.2.1; omega, by have := HI.out.2.2.2.1; omega, by have := HI.out.2.2.2.2.1; omega, HLF.out, HI.out.2.2.2.2.2.1, HI.out.2.2.2.2.2.2⟩⟩
          case round =>
            clear HI HI' hlen
            obtain ⟨i, ms, X, now, ids, hi16, rfl, HI⟩ := hrel
            obtain ⟨a9, cn, rfl⟩ := own_form HI.out.1.r9
            by_cases hz : ids.length = 0
            · obtain ⟨a10, cw, rfl⟩ := own_form HI.out.1.r10
              rw [hz]
              have hE1 : ¬ (0 : Int) < ((0 : Nat) : Int) := by omega
              have hOP : ms.opn.length = 0 := by rw [← HI.out.2.1.len]; exact hz
              have HBE := hide (HI.out.2.1.begin (by omega))
              have HBG := hide (mn_begin X wr g ms HI.out.1.mn (by have := HI.out.2.2.2.1; omega))
              rw [HBE.out.1] at HBG
              dsimp only at HBG
              have HFS := hide (fresh_scan HI.out.2.2.2.2.2.2.2 HI.out.2.2.2.2.2.2.1 HI.out.1.mn.nums.1)
              have HT : Hid (-9223372036854775808 ≤ (ms.last : Int) + 1 ∧ (ms.last : Int) + 1 ≤ 9223372036854775807) := hide (by have := HI.out.2.2.2.1; omega)
              have HBS := hide HI.out.1
              clear HI HBE hOP
              generalize (ms.last : Int) + 1 = T at *
              generalize ms.begun = m1 at *
              go_wp2_with fail
              refine HBG.out.mono ?_
              rintro e V1 ⟨rfl, hM, hF⟩
              have HS1 := hide (HBS.out.step hM hF)
              have HSC := hide (mn_scan X V1 g m1 hM T HT.out ⟨#[]⟩ ⟨#[]⟩)
              rw [HFS.out.1] at HSC
              clear hM hF HBG HBS
              go_wp2_with fail
              refine HSC.out.mono ?_
              rintro e V2 ⟨v8, l8, rfl, hr8, hsl, hM, hF⟩
              obtain rfl := HFS.out.2 l8 hsl
              obtain ⟨a8, c8, rfl⟩ := own_form hr8
              have HS2 := hide (HS1.out.step (hM.mono (fun i hi => .inl hi)) hF)
              have HI8 : Hid (IsP V2 a8 l8.length c8 l8) := hide (by
                obtain ⟨a', c', e, h, _⟩ := own_isP rfl hr8
                cases e
                exact h)
              have HI9 : Hid (IsP V2 a9 l8.length cn l8) := hide (by
                obtain ⟨a', c', e, h, _⟩ := own_isP rfl HS2.out.r9
                cases e
                exact h)
              have HSM := hide (sameP_any a8 _ c8 l8 a9 _ cn l8 V2 HI8.out HI9.out)
              have HBF : Hid (Below w.heap.size w V2) := hide (HB1.out.trans (HS2.out.lo.mono HWB.out))
              clear hr8 hsl hM hF HSC HFS HI8 HI9 HS1 HS2
              go_wp2_with fail
              refine HSM.out.mono ?_
              rintro e V3 ⟨⟨q, rfl, hq⟩, hb3⟩
              obtain rfl : q = true := hq.2 (by simp)
              have HB3 := hide (HBF.out.trans (hb3.mono HBF.out.size))
              clear hb3 hq HSM
              go_wp2
              go_ret
              exact ⟨rfl, HB3.out⟩
            · obtain ⟨g10, cw, rfl, hncw, hcwm, hg10⟩ := rowI_form HI.out.1.r10 (by omega)
              obtain ⟨n, hn10⟩ : ∃ n, ids.length = n := ⟨_, rfl⟩
              have HR10 : Hid (wr.ownsRow B 3 1 (.slice (some ⟨g10, 0, none⟩) n cw) n (ids.flatMap ivc)) := hide (by have h := HI.out.1.r10; unfold RowI at h; rw [hn10] at h; exact h)
              rw [hn10] at hz hncw
              rw [hn10]
              have hcw : cw ≤ 9223372036854775807 := hcwm
              have hn16 : n ≤ 16 := by have := HI.out.2.2.1; omega
              have hnp : (0 : Int) < (n : Int) := by omega
              have hn0 : ¬ (n : Int) = 0 := by omega
              have hn0b : ((n : Int) == 0) = false := by simpa using hn0
              have hw3 : IntKind.i64.wrap ((i : Int) + 1) = (i : Int) + 1 := wr64' (by omega) (by omega)
              have hp4 : (0 : Int) ≤ (i : Int) := by omega
              obtain ⟨HOb⟩ : Nonempty (∀ j, j < on → ∃ b off, oa = some ⟨b, off, none⟩ ∧ i64B (ol.getD j 0) ∧ wr.cell? ⟨b, off + j, none⟩ = some (.int .i64 (ol.getD j 0))) := ⟨fun j hj => by
                obtain ⟨ht, b, off, e, hb, hc⟩ := HOO.out.2.2.2 j hj
                exact ⟨b, off, e, ht, (World.cell?_of_block ((HB1.out.trans (HI.out.1.lo.mono HWB.out)).block b hb)).trans hc⟩⟩
              by_cases hio : i < on
              · obtain ⟨bo, offo, rfl, htx, cx⟩ := HOb i hio
                clear HOb
                have hiO : (i : Int) < (on : Int) := by omega
                generalize ol.getD i 0 = xo at *
                by_cases hxo : 0 < xo
                · obtain ⟨kk, hkk⟩ : ∃ kk : Nat, (kk : Int) = xo.tmod (n : Int) := ⟨(xo.tmod (n : Int)).toNat, Int.toNat_of_nonneg (Int.tmod_nonneg _ (by omega))⟩
                  have hkn : kk < n := by
                    have := Int.tmod_lt_of_pos xo hnp
                    omega
                  have hkw : IntKind.i64.wrap (kk : Int) = (kk : Int) := wr64' (by omega) (by omega)
                  have hkk2 : xo.tmod (n : Int) = (kk : Int) := hkk.symm
                  clear hkk
                  have hKn : (kk : Int) < (n : Int) := by omega
                  have hKc : (kk : Int) ≤ (cw : Int) := by omega
                  have hKc1 : (kk : Int) + 1 ≤ (cw : Int) := by omega
                  have hKn1 : (kk : Int) + 1 ≤ (n : Int) := by omega
                  have hK0 : (0 : Int) ≤ (kk : Int) := by omega
                  have hK01 : (0 : Int) ≤ (kk : Int) + 1 := by omega
                  have hKw : IntKind.i64.wrap ((kk : Int) + 1) = (kk : Int) + 1 := wr64' (by omega) (by omega)
                  by_cases hcK : cw = kk + 1
                  · have HCK := hide hcK
                    have hcK1 : (cw = kk + 1) = True := eq_true hcK
                    clear hcK
                    have ct : wr.cell? ⟨g10, kk, none⟩ = some (.int .i64 (ids.getD kk 0)) := rowI_cells HR10.out kk hkn hn10
                    have HTB : Hid (i64B (ids.getD kk 0)) := hide (by
                      rw [HI.out.2.1.num, List.getD_eq_getElem?_getD, List.getElem?_map]
                      have hkl : kk < ms.opn.length := by rw [← HI.out.2.1.len, hn10]; exact hkn
                      rw [List.getElem?_eq_getElem hkl]
                      have h1 := HI.out.1.mn.nums.1 _ (List.getElem_mem hkl)
                      have h2 := HI.out.2.2.2.1
                      show i64B (((ms.opn[kk]'hkl).1 : Nat) : Int)
                      unfold i64B
                      omega)
                    have HCM := hide (mn_commit X wr g ms HI.out.1.mn (ids.getD kk 0) HTB.out (by have := HI.out.2.2.2.2.1; omega))
                    have HCB := hide (HI.out.2.1.commit HI.out.2.2.2.2.2.2.1 (by have := HI.out.2.2.2.2.1; omega) HI.out.1.mn.nums.2 HI.out.1.mn.srt HI.out.1.mn.few (k := kk) (by rw [hn10]; exact hkn))
                    have HNW := hide (fun h => HI.out.2.2.2.2.2.2.2.commit HI.out.2.2.2.2.2.2.1 HI.out.1.mn.srt (t := ids.getD kk 0) h)
                    have HSP := hide HI.out.2.2.2.2.2.2.2.1
                    have HBS := hide HI.out.1
                    have HNB : Hid (ids.length + i ≤ 16 ∧ ms.last ≤ 16 ∧ ms.now ≤ 1 + i ∧ now.length ≤ 4096 + 256 * i) := hide ⟨HI.out.2.2.1, HI.out.2.2.2.1, HI.out.2.2.2.2.1, HI.out.2.2.2.2.2.1⟩
                    clear HI HTB
                    generalize ids.getD kk 0 = T at *
                    generalize mCommit ms T = R at *
                    obtain ⟨R0, R1, R2, R3⟩ := R
                    dsimp only at HCM HCB HNW
                    go_wp2_with fail
                    refine HCM.out.mono ?_
                    rintro e V1 ⟨vd, rfl, hrow, hM, hF⟩
                    have HS1 := hide (HBS.out.step (hM.mono (fun i hi => .inl hi)) hF)
                    have HRD := hide hrow
                    obtain ⟨ad, cd, rfl⟩ := own_form hrow
                    clear hM hF hrow HCM HBS ct
                    have HBF : Hid (Below w.heap.size w V1) := hide (HB1.out.trans (HS1.out.lo.mono HWB.out))
                    rcases HCB.out.2.1 with hR3 | hR3
                    case inr =>
                      subst hR3
                      go_wp2
                      go_ret
                      exact ⟨rfl, HBF.out⟩
                    case inl =>
                      subst hR3
                      have HNX := hide (HNW.out rfl)
                      have HR9 := hide HS1.out.r9
                      have HIP : Hid (IsP V1 a9 now.length cn now) := hide (by
                        obtain ⟨a', c', e, h, _⟩ := own_isP rfl HR9.out
                        cases e
                        exact h)
                      have HIW : Hid (IsW V1 ad R1.length cd R1) := hide (own_isW rfl HRD.out)
                      have HAL := hide (all_any a9 now.length cn now ad R1.length cd R1 V1 HIP.out (fun h => own_none HR9.out h) HIW.out (by have h1 := HNB.out; have h2 := HCB.out.2.2.2.2.2.1; omega))
                      rw [docA_is R1 HSP.out] at HAL
                      have HLN2 : Hid ((allP now R1).length ≤ 4096 + 256 * (i + 1)) := hide (by have h1 := HNB.out; have h2 := HCB.out.2.2.2.2.2.1; have h3 := allP_len R1 now; omega)
                      have HCB2 : Hid (Bl R0 (ids.eraseIdx kk) ∧ Gd R0 ∧ R0.now ≤ ms.now + 1 ∧ R0.last = ms.last) := hide ⟨HCB.out.1, HCB.out.2.2.1, HCB.out.2.2.2.1, HCB.out.2.2.2.2.1⟩
                      clear HIP HIW HR9 HRD HNW HSP HCB
                      generalize allP now R1 = now2 at *
                      go_wp2_with fail
                      refine HAL.out.mono ?_
                      rintro e V2 ⟨v2, rfl, hr2, hb2⟩
                      obtain ⟨X2, hS2⟩ := HS1.out.put9 hb2 hr2
                      have HS2 := hide hS2
                      clear hr2 hb2 hS2 HAL HS1
                      have HR10 : Hid (V2.ownsRow B 3 1 (.slice (some ⟨g10, 0, none⟩) n cw) n (ids.flatMap ivc)) := hide (by have h := HS2.out.r10; unfold RowI at h; rw [hn10] at h; exact h)
                      have hg10 : g10 < V2.heap.size := (HR10.out.lt g10 rfl).2
                      have HBe : Hid (Below V2.heap.size V2 (V2.drew.alloc (.cells #[] 3))) := hide ((Below.refl _ V2).drew.alloc (Nat.le_refl _) _)
                      have HOe : Hid ((V2.drew.alloc (.cells #[] 3)).ownsRow V2.heap.size 3 1 (.slice (some ⟨V2.heap.size, 0, none⟩) 0 0) 0 (([] : List Int).flatMap ivc)) := hide (World.ownsRow_made V2.drew #[] 0 (Nat.le_refl _) (by decide) rfl)
                      have HRUN1 := hide (run_nums (cap := cw) (l := ids.take kk) (len := kk) ⟨g10, 0, none⟩ HOe.out (by rw [List.length_take, hn10]; omega) (fun j hj => by
                        rw [oadd0, Nat.zero_add, World.cell?_of_block (HBe.out.block g10 hg10), rowI_cells HR10.out j (by omega) hn10]
                        first | omega | simp [List.getD_eq_getElem?_getD, List.getElem?_take, hj]) (by omega) HBe.out.size)
                      have HRUN2 : Hid (∀ (v3 : Value) (w3 : World), w3.ownsRow V2.heap.size 3 1 v3 (0 + kk) (([] ++ ids.take kk).flatMap ivc) → (V2.drew.alloc (.cells #[] 3)).grownBy w3 (Value.slice (some ⟨V2.heap.size, 0, none⟩) 0 0).ownBlock → ∃ v4 w4, (Builtin.append_ #[54, 54] 54 #[v3, .slice (some ⟨g10, 0, none⟩) (n - (kk + 1)) (cw - (kk + 1))]).run Tryz.prog w3 = .ok v4 w4 ∧ w4.ownsRow V2.heap.size 3 1 v4 (n - 1) ((ids.eraseIdx kk).flatMap ivc) ∧ Below V2.heap.size V2 w4) := hide (fun v3 w3 ho3 hg3 => by
                        have hb3 : Below V2.heap.size V2 w3 := HBe.out.trans ((Below.refl _ _).grown hg3 HBe.out.size (fun k hk => Nat.le_of_eq (by simpa [Value.ownBlock] using hk)))
                        obtain ⟨v4, w4, hr4, ho4, hg4⟩ := run_nums (cap := cw - (kk + 1)) (l := ids.drop (kk + 1)) (len := n - (kk + 1)) ⟨g10, 0, none⟩ ho3 (by rw [List.length_drop, hn10]) (fun j hj => by
                          have := HCK.out
                          omega) (by omega) hb3.size
                        refine ⟨v4, w4, hr4, ?_, hb3.trans ((Below.refl _ _).grown hg4 hb3.size (fun k hk => (ho3.lt k hk).1))⟩
                        rw [erase_split]
                        have e : 0 + kk + (n - (kk + 1)) = n - 1 := by omega
                        rw [e] at ho4
                        simpa using ho4)
                      go_wp2_with fail
                      refine wp_region_last 10 (fun W' : World => True) (by kernel_rfl) trivial (fun hHeld => ?_)
                      refine wpAnyL_take (i := 1) (v := ?v1r1) rfl (by kernel_rfl) (fun _ _ _ h => h) (by assumption) (by rfl) ?hy1r1 ?hn1r1
                      case hy1r1 => (intro w hSw; (try dsimp only at hSw); skip; go_simp; try with_reducible rfl)
                      try simp only [Act.put]
                      refine wpAnyL_take (i := 2) (v := ?v2r1) rfl (by kernel_rfl) (fun _ _ _ h => h) (by assumption) (by rfl) ?hy2r1 ?hn2r1
                      case hy2r1 => (intro w hSw; (try dsimp only at hSw); skip; go_simp; try with_reducible rfl)
                      try simp only [Act.put]
                      refine wpAnyL_take (i := 3) (v := ?v3r1) rfl (by kernel_rfl) (fun _ _ _ h => h) (by assumption) (by rfl) ?hy3r1 ?hn3r1
                      case hy3r1 => (intro w hSw; (try dsimp only at hSw); skip; go_simp; try with_reducible rfl)
                      try simp only [Act.put]
                      refine wpAnyL_take (i := 5) (v := ?v5r1) rfl (by kernel_rfl) (fun _ _ _ h => h) (by assumption) (by rfl) ?hy5r1 ?hn5r1
                      case hy5r1 => (intro w hSw; (try dsimp only at hSw); skip; go_simp; try with_reducible rfl)
                      try simp only [Act.put]
                      refine wpAnyL_take (i := 6) (v := ?v6r1) rfl (by kernel_rfl) (fun _ _ _ h => h) (by assumption) (by rfl) ?hy6r1 ?hn6r1
                      case hy6r1 => (intro w hSw; (try dsimp only at hSw); skip; go_simp; try with_reducible rfl)
                      try simp only [Act.put]
                      refine wpAnyL_take (i := 7) (v := ?v7r1) rfl (by kernel_rfl) (fun _ _ _ h => h) (by assumption) (by rfl) ?hy7r1 ?hn7r1
                      case hy7r1 => (intro w hSw; (try dsimp only at hSw); skip; go_simp; try with_reducible rfl)
                      try simp only [Act.put]
                      refine wpAnyL_take (i := 8) (v := ?v8r1) rfl (by kernel_rfl) (fun _ _ _ h => h) (by assumption) (by rfl) ?hy8r1 ?hn8r1
                      case hy8r1 => (intro w hSw; (try dsimp only at hSw); skip; go_simp; try with_reducible rfl)
                      try simp only [Act.put]
                      refine wpAnyL_one (i := 0) rfl (by kernel_rfl) (fun K hK => ?_)
                      go_simp
                      refine hK.out _ _ trivial (fun hHeld => ?_)
                      clear hK K
                      try simp only [Act.put]
                      refine wpAnyL_one (i := 4) rfl (by kernel_rfl) (fun K hK => ?_)
                      obtain ⟨v3, w3, hr3, ho3, hg3⟩ := HRUN1.out
                      have HO3 := hide ho3
                      have HG3 := hide hg3
                      obtain ⟨a3, c3, rfl⟩ := own_form HO3.out
                      refine wp_append_eq _ _ 54 rfl rfl rfl hr3 ?_
                      refine hK.out _ _ trivial (fun hHeld => ?_)
                      clear hK K ho3 hg3 hr3
                      try simp only [Act.put]
                      refine wpAnyL_one (i := 9) rfl (by kernel_rfl) (fun K hK => ?_)
                      obtain ⟨v4, w4, hr4, ho4, hb4⟩ := HRUN2.out _ _ HO3.out HG3.out
                      have HO4 := hide ho4
                      have HB4 := hide hb4
                      obtain ⟨a4, c4, rfl⟩ := own_form HO4.out
                      refine wp_append_eq _ _ 54 rfl rfl rfl hr4 ?_
                      refine hK.out _ _ trivial (fun hHeld => ?_)
                      clear hK K ho4 hb4 hr4
                      try simp only [Act.put]
                      refine wpAnyL_last rfl (by kernel_rfl) (by kernel_rfl) (fun K hK => ?_)
                      go_simp
                      refine hK.out _ _ ?_
                      clear hK K hHeld
                      obtain ⟨X3, hS3⟩ := HS2.out.put10 HB4.out (v' := .slice a4 (n - 1) c4) (ids' := ids.eraseIdx kk) (by
                        unfold RowI
                        rw [List.length_eraseIdx, hn10, if_pos hkn]
                        exact HO4.out)
                      have HS4 := hide hS3
                      have HLE2 : Hid ((ids.eraseIdx kk).length = n - 1) := hide (by rw [List.length_eraseIdx, hn10, if_pos hkn])
                      clear hS3 HB4 HO4 HO3 HG3 HRUN1 HRUN2 HOe HBe HR10 HS2
                      go_wp2
                      go_roundw
                      case rel => exact ⟨i + 1, R0, X3, now2, ids.eraseIdx kk, by have := HNB.out.1; omega, by simp, hide ⟨HS4.out, HCB2.out.1, by rw [HLE2.out]; have := HNB.out.1; omega, by rw [HCB2.out.2.2.2]; exact HNB.out.2.1, by have h1 := HCB2.out.2.2.1; have h2 := HNB.out.2.2.1; omega, HLN2.out, HCB2.out.2.1, HNX.out⟩⟩
                      case measure => simp [slLen]; omega
                  · have hcK2 : ¬ (cw : Int) = (kk : Int) + 1 := by omega
                    have ct : wr.cell? ⟨g10, kk, none⟩ = some (.int .i64 (ids.getD kk 0)) := rowI_cells HR10.out kk hkn hn10
                    have HTB : Hid (i64B (ids.getD kk 0)) := hide (by
                      rw [HI.out.2.1.num, List.getD_eq_getElem?_getD, List.getElem?_map]
                      have hkl : kk < ms.opn.length := by rw [← HI.out.2.1.len, hn10]; exact hkn
                      rw [List.getElem?_eq_getElem hkl]
                      have h1 := HI.out.1.mn.nums.1 _ (List.getElem_mem hkl)
                      have h2 := HI.out.2.2.2.1
                      show i64B (((ms.opn[kk]'hkl).1 : Nat) : Int)
                      unfold i64B
                      omega)
                    have HCM := hide (mn_commit X wr g ms HI.out.1.mn (ids.getD kk 0) HTB.out (by have := HI.out.2.2.2.2.1; omega))
                    have HCB := hide (HI.out.2.1.commit HI.out.2.2.2.2.2.2.1 (by have := HI.out.2.2.2.2.1; omega) HI.out.1.mn.nums.2 HI.out.1.mn.srt HI.out.1.mn.few (k := kk) (by rw [hn10]; exact hkn))
                    have HNW := hide (fun h => HI.out.2.2.2.2.2.2.2.commit HI.out.2.2.2.2.2.2.1 HI.out.1.mn.srt (t := ids.getD kk 0) h)
                    have HSP := hide HI.out.2.2.2.2.2.2.2.1
                    have HBS := hide HI.out.1
                    have HNB : Hid (ids.length + i ≤ 16 ∧ ms.last ≤ 16 ∧ ms.now ≤ 1 + i ∧ now.length ≤ 4096 + 256 * i) := hide ⟨HI.out.2.2.1, HI.out.2.2.2.1, HI.out.2.2.2.2.1, HI.out.2.2.2.2.2.1⟩
                    clear HI HTB
                    generalize ids.getD kk 0 = T at *
                    generalize mCommit ms T = R at *
                    obtain ⟨R0, R1, R2, R3⟩ := R
                    dsimp only at HCM HCB HNW
                    go_wp2_with fail
                    refine HCM.out.mono ?_
                    rintro e V1 ⟨vd, rfl, hrow, hM, hF⟩
                    have HS1 := hide (HBS.out.step (hM.mono (fun i hi => .inl hi)) hF)
                    have HRD := hide hrow
                    obtain ⟨ad, cd, rfl⟩ := own_form hrow
                    clear hM hF hrow HCM HBS ct
                    have HBF : Hid (Below w.heap.size w V1) := hide (HB1.out.trans (HS1.out.lo.mono HWB.out))
                    rcases HCB.out.2.1 with hR3 | hR3
                    case inr =>
                      subst hR3
                      go_wp2
                      go_ret
                      exact ⟨rfl, HBF.out⟩
                    case inl =>
                      subst hR3
                      have HNX := hide (HNW.out rfl)
                      have HR9 := hide HS1.out.r9
                      have HIP : Hid (IsP V1 a9 now.length cn now) := hide (by
                        obtain ⟨a', c', e, h, _⟩ := own_isP rfl HR9.out
                        cases e
                        exact h)
                      have HIW : Hid (IsW V1 ad R1.length cd R1) := hide (own_isW rfl HRD.out)
                      have HAL := hide (all_any a9 now.length cn now ad R1.length cd R1 V1 HIP.out (fun h => own_none HR9.out h) HIW.out (by have h1 := HNB.out; have h2 := HCB.out.2.2.2.2.2.1; omega))
                      rw [docA_is R1 HSP.out] at HAL
                      have HLN2 : Hid ((allP now R1).length ≤ 4096 + 256 * (i + 1)) := hide (by have h1 := HNB.out; have h2 := HCB.out.2.2.2.2.2.1; have h3 := allP_len R1 now; omega)
                      have HCB2 : Hid (Bl R0 (ids.eraseIdx kk) ∧ Gd R0 ∧ R0.now ≤ ms.now + 1 ∧ R0.last = ms.last) := hide ⟨HCB.out.1, HCB.out.2.2.1, HCB.out.2.2.2.1, HCB.out.2.2.2.2.1⟩
                      clear HIP HIW HR9 HRD HNW HSP HCB
                      generalize allP now R1 = now2 at *
                      go_wp2_with fail
                      refine HAL.out.mono ?_
                      rintro e V2 ⟨v2, rfl, hr2, hb2⟩
                      obtain ⟨X2, hS2⟩ := HS1.out.put9 hb2 hr2
                      have HS2 := hide hS2
                      clear hr2 hb2 hS2 HAL HS1
                      have HR10 : Hid (V2.ownsRow B 3 1 (.slice (some ⟨g10, 0, none⟩) n cw) n (ids.flatMap ivc)) := hide (by have h := HS2.out.r10; unfold RowI at h; rw [hn10] at h; exact h)
                      have hg10 : g10 < V2.heap.size := (HR10.out.lt g10 rfl).2
                      have HBe : Hid (Below V2.heap.size V2 (V2.drew.alloc (.cells #[] 3))) := hide ((Below.refl _ V2).drew.alloc (Nat.le_refl _) _)
                      have HOe : Hid ((V2.drew.alloc (.cells #[] 3)).ownsRow V2.heap.size 3 1 (.slice (some ⟨V2.heap.size, 0, none⟩) 0 0) 0 (([] : List Int).flatMap ivc)) := hide (World.ownsRow_made V2.drew #[] 0 (Nat.le_refl _) (by decide) rfl)
                      have HRUN1 := hide (run_nums (cap := cw) (l := ids.take kk) (len := kk) ⟨g10, 0, none⟩ HOe.out (by rw [List.length_take, hn10]; omega) (fun j hj => by
                        rw [oadd0, Nat.zero_add, World.cell?_of_block (HBe.out.block g10 hg10), rowI_cells HR10.out j (by omega) hn10]
                        first | omega | simp [List.getD_eq_getElem?_getD, List.getElem?_take, hj]) (by omega) HBe.out.size)
                      have HRUN2 : Hid (∀ (v3 : Value) (w3 : World), w3.ownsRow V2.heap.size 3 1 v3 (0 + kk) (([] ++ ids.take kk).flatMap ivc) → (V2.drew.alloc (.cells #[] 3)).grownBy w3 (Value.slice (some ⟨V2.heap.size, 0, none⟩) 0 0).ownBlock → ∃ v4 w4, (Builtin.append_ #[54, 54] 54 #[v3, .slice (some ⟨g10, kk + 1, none⟩) (n - (kk + 1)) (cw - (kk + 1))]).run Tryz.prog w3 = .ok v4 w4 ∧ w4.ownsRow V2.heap.size 3 1 v4 (n - 1) ((ids.eraseIdx kk).flatMap ivc) ∧ Below V2.heap.size V2 w4) := hide (fun v3 w3 ho3 hg3 => by
                        have hb3 : Below V2.heap.size V2 w3 := HBe.out.trans ((Below.refl _ _).grown hg3 HBe.out.size (fun k hk => Nat.le_of_eq (by simpa [Value.ownBlock] using hk)))
                        obtain ⟨v4, w4, hr4, ho4, hg4⟩ := run_nums (cap := cw - (kk + 1)) (l := ids.drop (kk + 1)) (len := n - (kk + 1)) ⟨g10, kk + 1, none⟩ ho3 (by rw [List.length_drop, hn10]) (fun j hj => by
                          rw [oadd0]
                          rw [World.cell?_of_block (hb3.block g10 hg10), rowI_cells HR10.out (kk + 1 + j) (by omega) hn10]
                          first | (simp [List.getD_eq_getElem?_getD, List.getElem?_drop]; done) | (simp [List.getD_eq_getElem?_getD, List.getElem?_drop, Nat.add_comm]; done)) (by omega) hb3.size
                        refine ⟨v4, w4, hr4, ?_, hb3.trans ((Below.refl _ _).grown hg4 hb3.size (fun k hk => (ho3.lt k hk).1))⟩
                        rw [erase_split]
                        have e : 0 + kk + (n - (kk + 1)) = n - 1 := by omega
                        rw [e] at ho4
                        simpa using ho4)
                      go_wp2_with fail
                      refine wp_region_last 10 (fun W' : World => True) (by kernel_rfl) trivial (fun hHeld => ?_)
                      refine wpAnyL_take (i := 1) (v := ?v1r2) rfl (by kernel_rfl) (fun _ _ _ h => h) (by assumption) (by rfl) ?hy1r2 ?hn1r2
                      case hy1r2 => (intro w hSw; (try dsimp only at hSw); skip; go_simp; try with_reducible rfl)
                      try simp only [Act.put]
                      refine wpAnyL_take (i := 2) (v := ?v2r2) rfl (by kernel_rfl) (fun _ _ _ h => h) (by assumption) (by rfl) ?hy2r2 ?hn2r2
                      case hy2r2 => (intro w hSw; (try dsimp only at hSw); skip; go_simp; try with_reducible rfl)
                      try simp only [Act.put]
                      refine wpAnyL_take (i := 3) (v := ?v3r2) rfl (by kernel_rfl) (fun _ _ _ h => h) (by assumption) (by rfl) ?hy3r2 ?hn3r2
                      case hy3r2 => (intro w hSw; (try dsimp only at hSw); skip; go_simp; try with_reducible rfl)
                      try simp only [Act.put]
                      refine wpAnyL_take (i := 5) (v := ?v5r2) rfl (by kernel_rfl) (fun _ _ _ h => h) (by assumption) (by rfl) ?hy5r2 ?hn5r2
                      case hy5r2 => (intro w hSw; (try dsimp only at hSw); skip; go_simp; try with_reducible rfl)
                      try simp only [Act.put]
                      refine wpAnyL_take (i := 6) (v := ?v6r2) rfl (by kernel_rfl) (fun _ _ _ h => h) (by assumption) (by rfl) ?hy6r2 ?hn6r2
                      case hy6r2 => (intro w hSw; (try dsimp only at hSw); skip; go_simp; try with_reducible rfl)
                      try simp only [Act.put]
                      refine wpAnyL_take (i := 7) (v := ?v7r2) rfl (by kernel_rfl) (fun _ _ _ h => h) (by assumption) (by rfl) ?hy7r2 ?hn7r2
                      case hy7r2 => (intro w hSw; (try dsimp only at hSw); skip; go_simp; try with_reducible rfl)
                      try simp only [Act.put]
                      refine wpAnyL_take (i := 8) (v := ?v8r2) rfl (by kernel_rfl) (fun _ _ _ h => h) (by assumption) (by rfl) ?hy8r2 ?hn8r2
                      case hy8r2 => (intro w hSw; (try dsimp only at hSw); skip; go_simp; try with_reducible rfl)
                      try simp only [Act.put]
                      refine wpAnyL_one (i := 0) rfl (by kernel_rfl) (fun K hK => ?_)
                      go_simp
                      refine hK.out _ _ trivial (fun hHeld => ?_)
                      clear hK K
                      try simp only [Act.put]
                      refine wpAnyL_one (i := 4) rfl (by kernel_rfl) (fun K hK => ?_)
                      obtain ⟨v3, w3, hr3, ho3, hg3⟩ := HRUN1.out
                      have HO3 := hide ho3
                      have HG3 := hide hg3
                      obtain ⟨a3, c3, rfl⟩ := own_form HO3.out
                      refine wp_append_eq _ _ 54 rfl rfl rfl hr3 ?_
                      refine hK.out _ _ trivial (fun hHeld => ?_)
                      clear hK K ho3 hg3 hr3
                      try simp only [Act.put]
                      refine wpAnyL_one (i := 9) rfl (by kernel_rfl) (fun K hK => ?_)
                      obtain ⟨v4, w4, hr4, ho4, hb4⟩ := HRUN2.out _ _ HO3.out HG3.out
                      have HO4 := hide ho4
                      have HB4 := hide hb4
                      obtain ⟨a4, c4, rfl⟩ := own_form HO4.out
                      refine wp_append_eq _ _ 54 rfl rfl rfl hr4 ?_
                      refine hK.out _ _ trivial (fun hHeld => ?_)
                      clear hK K ho4 hb4 hr4
                      try simp only [Act.put]
                      refine wpAnyL_last rfl (by kernel_rfl) (by kernel_rfl) (fun K hK => ?_)
                      go_simp
                      refine hK.out _ _ ?_
                      clear hK K hHeld
                      obtain ⟨X3, hS3⟩ := HS2.out.put10 HB4.out (v' := .slice a4 (n - 1) c4) (ids' := ids.eraseIdx kk) (by
                        unfold RowI
                        rw [List.length_eraseIdx, hn10, if_pos hkn]
                        exact HO4.out)
                      have HS4 := hide hS3
                      have HLE2 : Hid ((ids.eraseIdx kk).length = n - 1) := hide (by rw [List.length_eraseIdx, hn10, if_pos hkn])
                      clear hS3 HB4 HO4 HO3 HG3 HRUN1 HRUN2 HOe HBe HR10 HS2
                      go_wp2
                      go_roundw
                      case rel => exact ⟨i + 1, R0, X3, now2, ids.eraseIdx kk, by have := HNB.out.1; omega, by simp, hide ⟨HS4.out, HCB2.out.1, by rw [HLE2.out]; have := HNB.out.1; omega, by rw [HCB2.out.2.2.2]; exact HNB.out.2.1, by have h1 := HCB2.out.2.2.1; have h2 := HNB.out.2.2.1; omega, HLN2.out, HCB2.out.2.1, HNX.out⟩⟩
                      case measure => simp [slLen]; omega
                · have hxo2 : ¬ (0 : Int) < xo := hxo
                  have hkn : 0 < n := by omega
                  have hKn : (0 : Int) < (n : Int) := by omega
                  have hKc : (0 : Int) ≤ (cw : Int) := by omega
                  have hKc1 : (1 : Int) ≤ (cw : Int) := by omega
                  have hKn1 : (1 : Int) ≤ (n : Int) := by omega
                  have hKw : IntKind.i64.wrap (1 : Int) = 1 := wr64' (by omega) (by omega)
                  by_cases hcK : cw = 1
                  · have HCK := hide hcK
                    have hcK1 : (cw = 1) = True := eq_true hcK
                    clear hcK
                    have ct : wr.cell? ⟨g10, 0, none⟩ = some (.int .i64 (ids.getD 0 0)) := rowI_cells HR10.out 0 hkn hn10
                    have HTB : Hid (i64B (ids.getD 0 0)) := hide (by
                      rw [HI.out.2.1.num, List.getD_eq_getElem?_getD, List.getElem?_map]
                      have hkl : 0 < ms.opn.length := by rw [← HI.out.2.1.len, hn10]; exact hkn
                      rw [List.getElem?_eq_getElem hkl]
                      have h1 := HI.out.1.mn.nums.1 _ (List.getElem_mem hkl)
                      have h2 := HI.out.2.2.2.1
                      show i64B (((ms.opn[0]'hkl).1 : Nat) : Int)
                      unfold i64B
                      omega)
                    have HCM := hide (mn_commit X wr g ms HI.out.1.mn (ids.getD 0 0) HTB.out (by have := HI.out.2.2.2.2.1; omega))
                    have HCB := hide (HI.out.2.1.commit HI.out.2.2.2.2.2.2.1 (by have := HI.out.2.2.2.2.1; omega) HI.out.1.mn.nums.2 HI.out.1.mn.srt HI.out.1.mn.few (k := 0) (by rw [hn10]; exact hkn))
                    have HNW := hide (fun h => HI.out.2.2.2.2.2.2.2.commit HI.out.2.2.2.2.2.2.1 HI.out.1.mn.srt (t := ids.getD 0 0) h)
                    have HSP := hide HI.out.2.2.2.2.2.2.2.1
                    have HBS := hide HI.out.1
                    have HNB : Hid (ids.length + i ≤ 16 ∧ ms.last ≤ 16 ∧ ms.now ≤ 1 + i ∧ now.length ≤ 4096 + 256 * i) := hide ⟨HI.out.2.2.1, HI.out.2.2.2.1, HI.out.2.2.2.2.1, HI.out.2.2.2.2.2.1⟩
                    clear HI HTB
                    generalize ids.getD 0 0 = T at *
                    generalize mCommit ms T = R at *
                    obtain ⟨R0, R1, R2, R3⟩ := R
                    dsimp only at HCM HCB HNW
                    go_wp2_with fail
                    refine HCM.out.mono ?_
                    rintro e V1 ⟨vd, rfl, hrow, hM, hF⟩
                    have HS1 := hide (HBS.out.step (hM.mono (fun i hi => .inl hi)) hF)
                    have HRD := hide hrow
                    obtain ⟨ad, cd, rfl⟩ := own_form hrow
                    clear hM hF hrow HCM HBS ct
                    have HBF : Hid (Below w.heap.size w V1) := hide (HB1.out.trans (HS1.out.lo.mono HWB.out))
                    rcases HCB.out.2.1 with hR3 | hR3
                    case inr =>
                      subst hR3
                      go_wp2
                      go_ret
                      exact ⟨rfl, HBF.out⟩
                    case inl =>
                      subst hR3
                      have HNX := hide (HNW.out rfl)
                      have HR9 := hide HS1.out.r9
                      have HIP : Hid (IsP V1 a9 now.length cn now) := hide (by
                        obtain ⟨a', c', e, h, _⟩ := own_isP rfl HR9.out
                        cases e
                        exact h)
                      have HIW : Hid (IsW V1 ad R1.length cd R1) := hide (own_isW rfl HRD.out)
                      have HAL := hide (all_any a9 now.length cn now ad R1.length cd R1 V1 HIP.out (fun h => own_none HR9.out h) HIW.out (by have h1 := HNB.out; have h2 := HCB.out.2.2.2.2.2.1; omega))
                      rw [docA_is R1 HSP.out] at HAL
                      have HLN2 : Hid ((allP now R1).length ≤ 4096 + 256 * (i + 1)) := hide (by have h1 := HNB.out; have h2 := HCB.out.2.2.2.2.2.1; have h3 := allP_len R1 now; omega)
                      have HCB2 : Hid (Bl R0 (ids.eraseIdx 0) ∧ Gd R0 ∧ R0.now ≤ ms.now + 1 ∧ R0.last = ms.last) := hide ⟨HCB.out.1, HCB.out.2.2.1, HCB.out.2.2.2.1, HCB.out.2.2.2.2.1⟩
                      clear HIP HIW HR9 HRD HNW HSP HCB
                      generalize allP now R1 = now2 at *
                      go_wp2_with fail
                      refine HAL.out.mono ?_
                      rintro e V2 ⟨v2, rfl, hr2, hb2⟩
                      obtain ⟨X2, hS2⟩ := HS1.out.put9 hb2 hr2
                      have HS2 := hide hS2
                      clear hr2 hb2 hS2 HAL HS1
                      have HR10 : Hid (V2.ownsRow B 3 1 (.slice (some ⟨g10, 0, none⟩) n cw) n (ids.flatMap ivc)) := hide (by have h := HS2.out.r10; unfold RowI at h; rw [hn10] at h; exact h)
                      have hg10 : g10 < V2.heap.size := (HR10.out.lt g10 rfl).2
                      have HBe : Hid (Below V2.heap.size V2 (V2.drew.alloc (.cells #[] 3))) := hide ((Below.refl _ V2).drew.alloc (Nat.le_refl _) _)
                      have HOe : Hid ((V2.drew.alloc (.cells #[] 3)).ownsRow V2.heap.size 3 1 (.slice (some ⟨V2.heap.size, 0, none⟩) 0 0) 0 (([] : List Int).flatMap ivc)) := hide (World.ownsRow_made V2.drew #[] 0 (Nat.le_refl _) (by decide) rfl)
                      have HRUN1 := hide (run_nums (cap := cw) (l := ids.take 0) (len := 0) ⟨g10, 0, none⟩ HOe.out (by rw [List.length_take, hn10]; omega) (fun j hj => by
                        rw [oadd0, Nat.zero_add, World.cell?_of_block (HBe.out.block g10 hg10), rowI_cells HR10.out j (by omega) hn10]
                        first | omega | simp [List.getD_eq_getElem?_getD, List.getElem?_take, hj]) (by omega) HBe.out.size)
                      have HRUN2 : Hid (∀ (v3 : Value) (w3 : World), w3.ownsRow V2.heap.size 3 1 v3 (0 + 0) (([] ++ ids.take 0).flatMap ivc) → (V2.drew.alloc (.cells #[] 3)).grownBy w3 (Value.slice (some ⟨V2.heap.size, 0, none⟩) 0 0).ownBlock → ∃ v4 w4, (Builtin.append_ #[54, 54] 54 #[v3, .slice (some ⟨g10, 0, none⟩) (n - (1)) (cw - (1))]).run Tryz.prog w3 = .ok v4 w4 ∧ w4.ownsRow V2.heap.size 3 1 v4 (n - 1) ((ids.eraseIdx 0).flatMap ivc) ∧ Below V2.heap.size V2 w4) := hide (fun v3 w3 ho3 hg3 => by
                        have hb3 : Below V2.heap.size V2 w3 := HBe.out.trans ((Below.refl _ _).grown hg3 HBe.out.size (fun k hk => Nat.le_of_eq (by simpa [Value.ownBlock] using hk)))
                        obtain ⟨v4, w4, hr4, ho4, hg4⟩ := run_nums (cap := cw - (1)) (l := ids.drop (1)) (len := n - (1)) ⟨g10, 0, none⟩ ho3 (by rw [List.length_drop, hn10]) (fun j hj => by
                          have := HCK.out
                          omega) (by omega) hb3.size
                        refine ⟨v4, w4, hr4, ?_, hb3.trans ((Below.refl _ _).grown hg4 hb3.size (fun k hk => (ho3.lt k hk).1))⟩
                        rw [erase_split]
                        have e : 0 + 0 + (n - (1)) = n - 1 := by omega
                        rw [e] at ho4
                        simpa using ho4)
                      go_wp2_with fail
                      refine wp_region_last 10 (fun W' : World => True) (by kernel_rfl) trivial (fun hHeld => ?_)
                      refine wpAnyL_take (i := 1) (v := ?v1r3) rfl (by kernel_rfl) (fun _ _ _ h => h) (by assumption) (by rfl) ?hy1r3 ?hn1r3
                      case hy1r3 => (intro w hSw; (try dsimp only at hSw); skip; go_simp; try with_reducible rfl)
                      try simp only [Act.put]
                      refine wpAnyL_take (i := 2) (v := ?v2r3) rfl (by kernel_rfl) (fun _ _ _ h => h) (by assumption) (by rfl) ?hy2r3 ?hn2r3
                      case hy2r3 => (intro w hSw; (try dsimp only at hSw); skip; go_simp; try with_reducible rfl)
                      try simp only [Act.put]
                      refine wpAnyL_take (i := 3) (v := ?v3r3) rfl (by kernel_rfl) (fun _ _ _ h => h) (by assumption) (by rfl) ?hy3r3 ?hn3r3
                      case hy3r3 => (intro w hSw; (try dsimp only at hSw); skip; go_simp; try with_reducible rfl)
                      try simp only [Act.put]
                      refine wpAnyL_take (i := 5) (v := ?v5r3) rfl (by kernel_rfl) (fun _ _ _ h => h) (by assumption) (by rfl) ?hy5r3 ?hn5r3
                      case hy5r3 => (intro w hSw; (try dsimp only at hSw); skip; go_simp; try with_reducible rfl)
                      try simp only [Act.put]
                      refine wpAnyL_take (i := 6) (v := ?v6r3) rfl (by kernel_rfl) (fun _ _ _ h => h) (by assumption) (by rfl) ?hy6r3 ?hn6r3
                      case hy6r3 => (intro w hSw; (try dsimp only at hSw); skip; go_simp; try with_reducible rfl)
                      try simp only [Act.put]
                      refine wpAnyL_take (i := 7) (v := ?v7r3) rfl (by kernel_rfl) (fun _ _ _ h => h) (by assumption) (by rfl) ?hy7r3 ?hn7r3
                      case hy7r3 => (intro w hSw; (try dsimp only at hSw); skip; go_simp; try with_reducible rfl)
                      try simp only [Act.put]
                      refine wpAnyL_take (i := 8) (v := ?v8r3) rfl (by kernel_rfl) (fun _ _ _ h => h) (by assumption) (by rfl) ?hy8r3 ?hn8r3
                      case hy8r3 => (intro w hSw; (try dsimp only at hSw); skip; go_simp; try with_reducible rfl)
                      try simp only [Act.put]
                      refine wpAnyL_one (i := 0) rfl (by kernel_rfl) (fun K hK => ?_)
                      go_simp
                      refine hK.out _ _ trivial (fun hHeld => ?_)
                      clear hK K
                      try simp only [Act.put]
                      refine wpAnyL_one (i := 4) rfl (by kernel_rfl) (fun K hK => ?_)
                      obtain ⟨v3, w3, hr3, ho3, hg3⟩ := HRUN1.out
                      have HO3 := hide ho3
                      have HG3 := hide hg3
                      obtain ⟨a3, c3, rfl⟩ := own_form HO3.out
                      refine wp_append_eq _ _ 54 rfl rfl rfl hr3 ?_
                      refine hK.out _ _ trivial (fun hHeld => ?_)
                      clear hK K ho3 hg3 hr3
                      try simp only [Act.put]
                      refine wpAnyL_one (i := 9) rfl (by kernel_rfl) (fun K hK => ?_)
                      obtain ⟨v4, w4, hr4, ho4, hb4⟩ := HRUN2.out _ _ HO3.out HG3.out
                      have HO4 := hide ho4
                      have HB4 := hide hb4
                      obtain ⟨a4, c4, rfl⟩ := own_form HO4.out
                      refine wp_append_eq _ _ 54 rfl rfl rfl hr4 ?_
                      refine hK.out _ _ trivial (fun hHeld => ?_)
                      clear hK K ho4 hb4 hr4
                      try simp only [Act.put]
                      refine wpAnyL_last rfl (by kernel_rfl) (by kernel_rfl) (fun K hK => ?_)
                      go_simp
                      refine hK.out _ _ ?_
                      clear hK K hHeld
                      obtain ⟨X3, hS3⟩ := HS2.out.put10 HB4.out (v' := .slice a4 (n - 1) c4) (ids' := ids.eraseIdx 0) (by
                        unfold RowI
                        rw [List.length_eraseIdx, hn10, if_pos hkn]
                        exact HO4.out)
                      have HS4 := hide hS3
                      have HLE2 : Hid ((ids.eraseIdx 0).length = n - 1) := hide (by rw [List.length_eraseIdx, hn10, if_pos hkn])
                      clear hS3 HB4 HO4 HO3 HG3 HRUN1 HRUN2 HOe HBe HR10 HS2
                      go_wp2
                      go_roundw
                      case rel => exact ⟨i + 1, R0, X3, now2, ids.eraseIdx 0, by have := HNB.out.1; omega, by simp, hide ⟨HS4.out, HCB2.out.1, by rw [HLE2.out]; have := HNB.out.1; omega, by rw [HCB2.out.2.2.2]; exact HNB.out.2.1, by have h1 := HCB2.out.2.2.1; have h2 := HNB.out.2.2.1; omega, HLN2.out, HCB2.out.2.1, HNX.out⟩⟩
                      case measure => simp [slLen]; omega
                  · have hcK2 : ¬ (cw : Int) = (1 : Int) := by omega
                    have ct : wr.cell? ⟨g10, 0, none⟩ = some (.int .i64 (ids.getD 0 0)) := rowI_cells HR10.out 0 hkn hn10
                    have HTB : Hid (i64B (ids.getD 0 0)) := hide (by
                      rw [HI.out.2.1.num, List.getD_eq_getElem?_getD, List.getElem?_map]
                      have hkl : 0 < ms.opn.length := by rw [← HI.out.2.1.len, hn10]; exact hkn
                      rw [List.getElem?_eq_getElem hkl]
                      have h1 := HI.out.1.mn.nums.1 _ (List.getElem_mem hkl)
                      have h2 := HI.out.2.2.2.1
                      show i64B (((ms.opn[0]'hkl).1 : Nat) : Int)
                      unfold i64B
                      omega)
                    have HCM := hide (mn_commit X wr g ms HI.out.1.mn (ids.getD 0 0) HTB.out (by have := HI.out.2.2.2.2.1; omega))
                    have HCB := hide (HI.out.2.1.commit HI.out.2.2.2.2.2.2.1 (by have := HI.out.2.2.2.2.1; omega) HI.out.1.mn.nums.2 HI.out.1.mn.srt HI.out.1.mn.few (k := 0) (by rw [hn10]; exact hkn))
                    have HNW := hide (fun h => HI.out.2.2.2.2.2.2.2.commit HI.out.2.2.2.2.2.2.1 HI.out.1.mn.srt (t := ids.getD 0 0) h)
                    have HSP := hide HI.out.2.2.2.2.2.2.2.1
                    have HBS := hide HI.out.1
                    have HNB : Hid (ids.length + i ≤ 16 ∧ ms.last ≤ 16 ∧ ms.now ≤ 1 + i ∧ now.length ≤ 4096 + 256 * i) := hide ⟨HI.out.2.2.1, HI.out.2.2.2.1, HI.out.2.2.2.2.1, HI.out.2.2.2.2.2.1⟩
                    clear HI HTB
                    generalize ids.getD 0 0 = T at *
                    generalize mCommit ms T = R at *
                    obtain ⟨R0, R1, R2, R3⟩ := R
                    dsimp only at HCM HCB HNW
                    go_wp2_with fail
                    refine HCM.out.mono ?_
                    rintro e V1 ⟨vd, rfl, hrow, hM, hF⟩
                    have HS1 := hide (HBS.out.step (hM.mono (fun i hi => .inl hi)) hF)
                    have HRD := hide hrow
                    obtain ⟨ad, cd, rfl⟩ := own_form hrow
                    clear hM hF hrow HCM HBS ct
                    have HBF : Hid (Below w.heap.size w V1) := hide (HB1.out.trans (HS1.out.lo.mono HWB.out))
                    rcases HCB.out.2.1 with hR3 | hR3
                    case inr =>
                      subst hR3
                      go_wp2
                      go_ret
                      exact ⟨rfl, HBF.out⟩
                    case inl =>
                      subst hR3
                      have HNX := hide (HNW.out rfl)
                      have HR9 := hide HS1.out.r9
                      have HIP : Hid (IsP V1 a9 now.length cn now) := hide (by
                        obtain ⟨a', c', e, h, _⟩ := own_isP rfl HR9.out
                        cases e
                        exact h)
                      have HIW : Hid (IsW V1 ad R1.length cd R1) := hide (own_isW rfl HRD.out)
                      have HAL := hide (all_any a9 now.length cn now ad R1.length cd R1 V1 HIP.out (fun h => own_none HR9.out h) HIW.out (by have h1 := HNB.out; have h2 := HCB.out.2.2.2.2.2.1; omega))
                      rw [docA_is R1 HSP.out] at HAL
                      have HLN2 : Hid ((allP now R1).length ≤ 4096 + 256 * (i + 1)) := hide (by have h1 := HNB.out; have h2 := HCB.out.2.2.2.2.2.1; have h3 := allP_len R1 now; omega)
                      have HCB2 : Hid (Bl R0 (ids.eraseIdx 0) ∧ Gd R0 ∧ R0.now ≤ ms.now + 1 ∧ R0.last = ms.last) := hide ⟨HCB.out.1, HCB.out.2.2.1, HCB.out.2.2.2.1, HCB.out.2.2.2.2.1⟩
                      clear HIP HIW HR9 HRD HNW HSP HCB
                      generalize allP now R1 = now2 at *
                      go_wp2_with fail
                      refine HAL.out.mono ?_
                      rintro e V2 ⟨v2, rfl, hr2, hb2⟩
                      obtain ⟨X2, hS2⟩ := HS1.out.put9 hb2 hr2
                      have HS2 := hide hS2
                      clear hr2 hb2 hS2 HAL HS1
                      have HR10 : Hid (V2.ownsRow B 3 1 (.slice (some ⟨g10, 0, none⟩) n cw) n (ids.flatMap ivc)) := hide (by have h := HS2.out.r10; unfold RowI at h; rw [hn10] at h; exact h)
                      have hg10 : g10 < V2.heap.size := (HR10.out.lt g10 rfl).2
                      have HBe : Hid (Below V2.heap.size V2 (V2.drew.alloc (.cells #[] 3))) := hide ((Below.refl _ V2).drew.alloc (Nat.le_refl _) _)
                      have HOe : Hid ((V2.drew.alloc (.cells #[] 3)).ownsRow V2.heap.size 3 1 (.slice (some ⟨V2.heap.size, 0, none⟩) 0 0) 0 (([] : List Int).flatMap ivc)) := hide (World.ownsRow_made V2.drew #[] 0 (Nat.le_refl _) (by decide) rfl)
                      have HRUN1 := hide (run_nums (cap := cw) (l := ids.take 0) (len := 0) ⟨g10, 0, none⟩ HOe.out (by rw [List.length_take, hn10]; omega) (fun j hj => by
                        rw [oadd0, Nat.zero_add, World.cell?_of_block (HBe.out.block g10 hg10), rowI_cells HR10.out j (by omega) hn10]
                        first | omega | simp [List.getD_eq_getElem?_getD, List.getElem?_take, hj]) (by omega) HBe.out.size)
                      have HRUN2 : Hid (∀ (v3 : Value) (w3 : World), w3.ownsRow V2.heap.size 3 1 v3 (0 + 0) (([] ++ ids.take 0).flatMap ivc) → (V2.drew.alloc (.cells #[] 3)).grownBy w3 (Value.slice (some ⟨V2.heap.size, 0, none⟩) 0 0).ownBlock → ∃ v4 w4, (Builtin.append_ #[54, 54] 54 #[v3, .slice (some ⟨g10, 1, none⟩) (n - (1)) (cw - (1))]).run Tryz.prog w3 = .ok v4 w4 ∧ w4.ownsRow V2.heap.size 3 1 v4 (n - 1) ((ids.eraseIdx 0).flatMap ivc) ∧ Below V2.heap.size V2 w4) := hide (fun v3 w3 ho3 hg3 => by
                        have hb3 : Below V2.heap.size V2 w3 := HBe.out.trans ((Below.refl _ _).grown hg3 HBe.out.size (fun k hk => Nat.le_of_eq (by simpa [Value.ownBlock] using hk)))
                        obtain ⟨v4, w4, hr4, ho4, hg4⟩ := run_nums (cap := cw - (1)) (l := ids.drop (1)) (len := n - (1)) ⟨g10, 1, none⟩ ho3 (by rw [List.length_drop, hn10]) (fun j hj => by
                          rw [oadd0]
                          rw [World.cell?_of_block (hb3.block g10 hg10), rowI_cells HR10.out (1 + j) (by omega) hn10]
                          first | (simp [List.getD_eq_getElem?_getD, List.getElem?_drop]; done) | (simp [List.getD_eq_getElem?_getD, List.getElem?_drop, Nat.add_comm]; done)) (by omega) hb3.size
                        refine ⟨v4, w4, hr4, ?_, hb3.trans ((Below.refl _ _).grown hg4 hb3.size (fun k hk => (ho3.lt k hk).1))⟩
                        rw [erase_split]
                        have e : 0 + 0 + (n - (1)) = n - 1 := by omega
                        rw [e] at ho4
                        simpa using ho4)
                      go_wp2_with fail
                      refine wp_region_last 10 (fun W' : World => True) (by kernel_rfl) trivial (fun hHeld => ?_)
                      refine wpAnyL_take (i := 1) (v := ?v1r4) rfl (by kernel_rfl) (fun _ _ _ h => h) (by assumption) (by rfl) ?hy1r4 ?hn1r4
                      case hy1r4 => (intro w hSw; (try dsimp only at hSw); skip; go_simp; try with_reducible rfl)
                      try simp only [Act.put]
                      refine wpAnyL_take (i := 2) (v := ?v2r4) rfl (by kernel_rfl) (fun _ _ _ h => h) (by assumption) (by rfl) ?hy2r4 ?hn2r4
                      case hy2r4 => (intro w hSw; (try dsimp only at hSw); skip; go_simp; try with_reducible rfl)
                      try simp only [Act.put]
                      refine wpAnyL_take (i := 3) (v := ?v3r4) rfl (by kernel_rfl) (fun _ _ _ h => h) (by assumption) (by rfl) ?hy3r4 ?hn3r4
                      case hy3r4 => (intro w hSw; (try dsimp only at hSw); skip; go_simp; try with_reducible rfl)
                      try simp only [Act.put]
                      refine wpAnyL_take (i := 5) (v := ?v5r4) rfl (by kernel_rfl) (fun _ _ _ h => h) (by assumption) (by rfl) ?hy5r4 ?hn5r4
                      case hy5r4 => (intro w hSw; (try dsimp only at hSw); skip; go_simp; try with_reducible rfl)
                      try simp only [Act.put]
                      refine wpAnyL_take (i := 6) (v := ?v6r4) rfl (by kernel_rfl) (fun _ _ _ h => h) (by assumption) (by rfl) ?hy6r4 ?hn6r4
                      case hy6r4 => (intro w hSw; (try dsimp only at hSw); skip; go_simp; try with_reducible rfl)
                      try simp only [Act.put]
                      refine wpAnyL_take (i := 7) (v := ?v7r4) rfl (by kernel_rfl) (fun _ _ _ h => h) (by assumption) (by rfl) ?hy7r4 ?hn7r4
                      case hy7r4 => (intro w hSw; (try dsimp only at hSw); skip; go_simp; try with_reducible rfl)
                      try simp only [Act.put]
                      refine wpAnyL_take (i := 8) (v := ?v8r4) rfl (by kernel_rfl) (fun _ _ _ h => h) (by assumption) (by rfl) ?hy8r4 ?hn8r4
                      case hy8r4 => (intro w hSw; (try dsimp only at hSw); skip; go_simp; try with_reducible rfl)
                      try simp only [Act.put]
                      refine wpAnyL_one (i := 0) rfl (by kernel_rfl) (fun K hK => ?_)
                      go_simp
                      refine hK.out _ _ trivial (fun hHeld => ?_)
                      clear hK K
                      try simp only [Act.put]
                      refine wpAnyL_one (i := 4) rfl (by kernel_rfl) (fun K hK => ?_)
                      obtain ⟨v3, w3, hr3, ho3, hg3⟩ := HRUN1.out
                      have HO3 := hide ho3
                      have HG3 := hide hg3
                      obtain ⟨a3, c3, rfl⟩ := own_form HO3.out
                      refine wp_append_eq _ _ 54 rfl rfl rfl hr3 ?_
                      refine hK.out _ _ trivial (fun hHeld => ?_)
                      clear hK K ho3 hg3 hr3
                      try simp only [Act.put]
                      refine wpAnyL_one (i := 9) rfl (by kernel_rfl) (fun K hK => ?_)
                      obtain ⟨v4, w4, hr4, ho4, hb4⟩ := HRUN2.out _ _ HO3.out HG3.out
                      have HO4 := hide ho4
                      have HB4 := hide hb4
                      obtain ⟨a4, c4, rfl⟩ := own_form HO4.out
                      refine wp_append_eq _ _ 54 rfl rfl rfl hr4 ?_
                      refine hK.out _ _ trivial (fun hHeld => ?_)
                      clear hK K ho4 hb4 hr4
                      try simp only [Act.put]
                      refine wpAnyL_last rfl (by kernel_rfl) (by kernel_rfl) (fun K hK => ?_)
                      go_simp
                      refine hK.out _ _ ?_
                      clear hK K hHeld
                      obtain ⟨X3, hS3⟩ := HS2.out.put10 HB4.out (v' := .slice a4 (n - 1) c4) (ids' := ids.eraseIdx 0) (by
                        unfold RowI
                        rw [List.length_eraseIdx, hn10, if_pos hkn]
                        exact HO4.out)
                      have HS4 := hide hS3
                      have HLE2 : Hid ((ids.eraseIdx 0).length = n - 1) := hide (by rw [List.length_eraseIdx, hn10, if_pos hkn])
                      clear hS3 HB4 HO4 HO3 HG3 HRUN1 HRUN2 HOe HBe HR10 HS2
                      go_wp2
                      go_roundw
                      case rel => exact ⟨i + 1, R0, X3, now2, ids.eraseIdx 0, by have := HNB.out.1; omega, by simp, hide ⟨HS4.out, HCB2.out.1, by rw [HLE2.out]; have := HNB.out.1; omega, by rw [HCB2.out.2.2.2]; exact HNB.out.2.1, by have h1 := HCB2.out.2.2.1; have h2 := HNB.out.2.2.1; omega, HLN2.out, HCB2.out.2.1, HNX.out⟩⟩
                      case measure => simp [slLen]; omega
              · have hiO : ¬ (i : Int) < (on : Int) := by omega
                clear HOb
                have hkn : 0 < n := by omega
                have hKn : (0 : Int) < (n : Int) := by omega
                have hKc : (0 : Int) ≤ (cw : Int) := by omega
                have hKc1 : (1 : Int) ≤ (cw : Int) := by omega
                have hKn1 : (1 : Int) ≤ (n : Int) := by omega
                have hKw : IntKind.i64.wrap (1 : Int) = 1 := wr64' (by omega) (by omega)
                by_cases hcK : cw = 1
                · have HCK := hide hcK
                  have hcK1 : (cw = 1) = True := eq_true hcK
                  clear hcK
                  have ct : wr.cell? ⟨g10, 0, none⟩ = some (.int .i64 (ids.getD 0 0)) := rowI_cells HR10.out 0 hkn hn10
                  have HTB : Hid (i64B (ids.getD 0 0)) := hide (by
                    rw [HI.out.2.1.num, List.getD_eq_getElem?_getD, List.getElem?_map]
                    have hkl : 0 < ms.opn.length := by rw [← HI.out.2.1.len, hn10]; exact hkn
                    rw [List.getElem?_eq_getElem hkl]
                    have h1 := HI.out.1.mn.nums.1 _ (List.getElem_mem hkl)
                    have h2 := HI.out.2.2.2.1
                    show i64B (((ms.opn[0]'hkl).1 : Nat) : Int)
                    unfold i64B
                    omega)
                  have HCM := hide (mn_commit X wr g ms HI.out.1.mn (ids.getD 0 0) HTB.out (by have := HI.out.2.2.2.2.1; omega))
                  have HCB := hide (HI.out.2.1.commit HI.out.2.2.2.2.2.2.1 (by have := HI.out.2.2.2.2.1; omega) HI.out.1.mn.nums.2 HI.out.1.mn.srt HI.out.1.mn.few (k := 0) (by rw [hn10]; exact hkn))
                  have HNW := hide (fun h => HI.out.2.2.2.2.2.2.2.commit HI.out.2.2.2.2.2.2.1 HI.out.1.mn.srt (t := ids.getD 0 0) h)
                  have HSP := hide HI.out.2.2.2.2.2.2.2.1
                  have HBS := hide HI.out.1
                  have HNB : Hid (ids.length + i ≤ 16 ∧ ms.last ≤ 16 ∧ ms.now ≤ 1 + i ∧ now.length ≤ 4096 + 256 * i) := hide ⟨HI.out.2.2.1, HI.out.2.2.2.1, HI.out.2.2.2.2.1, HI.out.2.2.2.2.2.1⟩
                  clear HI HTB
                  generalize ids.getD 0 0 = T at *
                  generalize mCommit ms T = R at *
                  obtain ⟨R0, R1, R2, R3⟩ := R
                  dsimp only at HCM HCB HNW
                  go_wp2_with fail
                  refine HCM.out.mono ?_
                  rintro e V1 ⟨vd, rfl, hrow, hM, hF⟩
                  have HS1 := hide (HBS.out.step (hM.mono (fun i hi => .inl hi)) hF)
                  have HRD := hide hrow
                  obtain ⟨ad, cd, rfl⟩ := own_form hrow
                  clear hM hF hrow HCM HBS ct
                  have HBF : Hid (Below w.heap.size w V1) := hide (HB1.out.trans (HS1.out.lo.mono HWB.out))
                  rcases HCB.out.2.1 with hR3 | hR3
                  case inr =>
                    subst hR3
                    go_wp2
                    go_ret
                    exact ⟨rfl, HBF.out⟩
                  case inl =>
                    subst hR3
                    have HNX := hide (HNW.out rfl)
                    have HR9 := hide HS1.out.r9
                    have HIP : Hid (IsP V1 a9 now.length cn now) := hide (by
                      obtain ⟨a', c', e, h, _⟩ := own_isP rfl HR9.out
                      cases e
                      exact h)
                    have HIW : Hid (IsW V1 ad R1.length cd R1) := hide (own_isW rfl HRD.out)
                    have HAL := hide (all_any a9 now.length cn now ad R1.length cd R1 V1 HIP.out (fun h => own_none HR9.out h) HIW.out (by have h1 := HNB.out; have h2 := HCB.out.2.2.2.2.2.1; omega))
                    rw [docA_is R1 HSP.out] at HAL
                    have HLN2 : Hid ((allP now R1).length ≤ 4096 + 256 * (i + 1)) := hide (by have h1 := HNB.out; have h2 := HCB.out.2.2.2.2.2.1; have h3 := allP_len R1 now; omega)
                    have HCB2 : Hid (Bl R0 (ids.eraseIdx 0) ∧ Gd R0 ∧ R0.now ≤ ms.now + 1 ∧ R0.last = ms.last) := hide ⟨HCB.out.1, HCB.out.2.2.1, HCB.out.2.2.2.1, HCB.out.2.2.2.2.1⟩
                    clear HIP HIW HR9 HRD HNW HSP HCB
                    generalize allP now R1 = now2 at *
                    go_wp2_with fail
                    refine HAL.out.mono ?_
                    rintro e V2 ⟨v2, rfl, hr2, hb2⟩
                    obtain ⟨X2, hS2⟩ := HS1.out.put9 hb2 hr2
                    have HS2 := hide hS2
                    clear hr2 hb2 hS2 HAL HS1
                    have HR10 : Hid (V2.ownsRow B 3 1 (.slice (some ⟨g10, 0, none⟩) n cw) n (ids.flatMap ivc)) := hide (by have h := HS2.out.r10; unfold RowI at h; rw [hn10] at h; exact h)
                    have hg10 : g10 < V2.heap.size := (HR10.out.lt g10 rfl).2
                    have HBe : Hid (Below V2.heap.size V2 (V2.drew.alloc (.cells #[] 3))) := hide ((Below.refl _ V2).drew.alloc (Nat.le_refl _) _)
                    have HOe : Hid ((V2.drew.alloc (.cells #[] 3)).ownsRow V2.heap.size 3 1 (.slice (some ⟨V2.heap.size, 0, none⟩) 0 0) 0 (([] : List Int).flatMap ivc)) := hide (World.ownsRow_made V2.drew #[] 0 (Nat.le_refl _) (by decide) rfl)
                    have HRUN1 := hide (run_nums (cap := cw) (l := ids.take 0) (len := 0) ⟨g10, 0, none⟩ HOe.out (by rw [List.length_take, hn10]; omega) (fun j hj => by
                      rw [oadd0, Nat.zero_add, World.cell?_of_block (HBe.out.block g10 hg10), rowI_cells HR10.out j (by omega) hn10]
                      first | omega | simp [List.getD_eq_getElem?_getD, List.getElem?_take, hj]) (by omega) HBe.out.size)
                    have HRUN2 : Hid (∀ (v3 : Value) (w3 : World), w3.ownsRow V2.heap.size 3 1 v3 (0 + 0) (([] ++ ids.take 0).flatMap ivc) → (V2.drew.alloc (.cells #[] 3)).grownBy w3 (Value.slice (some ⟨V2.heap.size, 0, none⟩) 0 0).ownBlock → ∃ v4 w4, (Builtin.append_ #[54, 54] 54 #[v3, .slice (some ⟨g10, 0, none⟩) (n - (1)) (cw - (1))]).run Tryz.prog w3 = .ok v4 w4 ∧ w4.ownsRow V2.heap.size 3 1 v4 (n - 1) ((ids.eraseIdx 0).flatMap ivc) ∧ Below V2.heap.size V2 w4) := hide (fun v3 w3 ho3 hg3 => by
                      have hb3 : Below V2.heap.size V2 w3 := HBe.out.trans ((Below.refl _ _).grown hg3 HBe.out.size (fun k hk => Nat.le_of_eq (by simpa [Value.ownBlock] using hk)))
                      obtain ⟨v4, w4, hr4, ho4, hg4⟩ := run_nums (cap := cw - (1)) (l := ids.drop (1)) (len := n - (1)) ⟨g10, 0, none⟩ ho3 (by rw [List.length_drop, hn10]) (fun j hj => by
                        have := HCK.out
                        omega) (by omega) hb3.size
                      refine ⟨v4, w4, hr4, ?_, hb3.trans ((Below.refl _ _).grown hg4 hb3.size (fun k hk => (ho3.lt k hk).1))⟩
                      rw [erase_split]
                      have e : 0 + 0 + (n - (1)) = n - 1 := by omega
                      rw [e] at ho4
                      simpa using ho4)
                    go_wp2_with fail
                    refine wp_region_last 10 (fun W' : World => True) (by kernel_rfl) trivial (fun hHeld => ?_)
                    refine wpAnyL_take (i := 1) (v := ?v1r5) rfl (by kernel_rfl) (fun _ _ _ h => h) (by assumption) (by rfl) ?hy1r5 ?hn1r5
                    case hy1r5 => (intro w hSw; (try dsimp only at hSw); skip; go_simp; try with_reducible rfl)
                    try simp only [Act.put]
                    refine wpAnyL_take (i := 2) (v := ?v2r5) rfl (by kernel_rfl) (fun _ _ _ h => h) (by assumption) (by rfl) ?hy2r5 ?hn2r5
                    case hy2r5 => (intro w hSw; (try dsimp only at hSw); skip; go_simp; try with_reducible rfl)
                    try simp only [Act.put]
                    refine wpAnyL_take (i := 3) (v := ?v3r5) rfl (by kernel_rfl) (fun _ _ _ h => h) (by assumption) (by rfl) ?hy3r5 ?hn3r5
                    case hy3r5 => (intro w hSw; (try dsimp only at hSw); skip; go_simp; try with_reducible rfl)
                    try simp only [Act.put]
                    refine wpAnyL_take (i := 5) (v := ?v5r5) rfl (by kernel_rfl) (fun _ _ _ h => h) (by assumption) (by rfl) ?hy5r5 ?hn5r5
                    case hy5r5 => (intro w hSw; (try dsimp only at hSw); skip; go_simp; try with_reducible rfl)
                    try simp only [Act.put]
                    refine wpAnyL_take (i := 6) (v := ?v6r5) rfl (by kernel_rfl) (fun _ _ _ h => h) (by assumption) (by rfl) ?hy6r5 ?hn6r5
                    case hy6r5 => (intro w hSw; (try dsimp only at hSw); skip; go_simp; try with_reducible rfl)
                    try simp only [Act.put]
                    refine wpAnyL_take (i := 7) (v := ?v7r5) rfl (by kernel_rfl) (fun _ _ _ h => h) (by assumption) (by rfl) ?hy7r5 ?hn7r5
                    case hy7r5 => (intro w hSw; (try dsimp only at hSw); skip; go_simp; try with_reducible rfl)
                    try simp only [Act.put]
                    refine wpAnyL_take (i := 8) (v := ?v8r5) rfl (by kernel_rfl) (fun _ _ _ h => h) (by assumption) (by rfl) ?hy8r5 ?hn8r5
                    case hy8r5 => (intro w hSw; (try dsimp only at hSw); skip; go_simp; try with_reducible rfl)
                    try simp only [Act.put]
                    refine wpAnyL_one (i := 0) rfl (by kernel_rfl) (fun K hK => ?_)
                    go_simp
                    refine hK.out _ _ trivial (fun hHeld => ?_)
                    clear hK K
                    try simp only [Act.put]
                    refine wpAnyL_one (i := 4) rfl (by kernel_rfl) (fun K hK => ?_)
                    obtain ⟨v3, w3, hr3, ho3, hg3⟩ := HRUN1.out
                    have HO3 := hide ho3
                    have HG3 := hide hg3
                    obtain ⟨a3, c3, rfl⟩ := own_form HO3.out
                    refine wp_append_eq _ _ 54 rfl rfl rfl hr3 ?_
                    refine hK.out _ _ trivial (fun hHeld => ?_)
                    clear hK K ho3 hg3 hr3
                    try simp only [Act.put]
                    refine wpAnyL_one (i := 9) rfl (by kernel_rfl) (fun K hK => ?_)
                    obtain ⟨v4, w4, hr4, ho4, hb4⟩ := HRUN2.out _ _ HO3.out HG3.out
                    have HO4 := hide ho4
                    have HB4 := hide hb4
                    obtain ⟨a4, c4, rfl⟩ := own_form HO4.out
                    refine wp_append_eq _ _ 54 rfl rfl rfl hr4 ?_
                    refine hK.out _ _ trivial (fun hHeld => ?_)
                    clear hK K ho4 hb4 hr4
                    try simp only [Act.put]
                    refine wpAnyL_last rfl (by kernel_rfl) (by kernel_rfl) (fun K hK => ?_)
                    go_simp
                    refine hK.out _ _ ?_
                    clear hK K hHeld
                    obtain ⟨X3, hS3⟩ := HS2.out.put10 HB4.out (v' := .slice a4 (n - 1) c4) (ids' := ids.eraseIdx 0) (by
                      unfold RowI
                      rw [List.length_eraseIdx, hn10, if_pos hkn]
                      exact HO4.out)
                    have HS4 := hide hS3
                    have HLE2 : Hid ((ids.eraseIdx 0).length = n - 1) := hide (by rw [List.length_eraseIdx, hn10, if_pos hkn])
                    clear hS3 HB4 HO4 HO3 HG3 HRUN1 HRUN2 HOe HBe HR10 HS2
                    go_wp2
                    go_roundw
                    case rel => exact ⟨i + 1, R0, X3, now2, ids.eraseIdx 0, by have := HNB.out.1; omega, by simp, hide ⟨HS4.out, HCB2.out.1, by rw [HLE2.out]; have := HNB.out.1; omega, by rw [HCB2.out.2.2.2]; exact HNB.out.2.1, by have h1 := HCB2.out.2.2.1; have h2 := HNB.out.2.2.1; omega, HLN2.out, HCB2.out.2.1, HNX.out⟩⟩
                    case measure => simp [slLen]; omega
                · have hcK2 : ¬ (cw : Int) = (1 : Int) := by omega
                  have ct : wr.cell? ⟨g10, 0, none⟩ = some (.int .i64 (ids.getD 0 0)) := rowI_cells HR10.out 0 hkn hn10
                  have HTB : Hid (i64B (ids.getD 0 0)) := hide (by
                    rw [HI.out.2.1.num, List.getD_eq_getElem?_getD, List.getElem?_map]
                    have hkl : 0 < ms.opn.length := by rw [← HI.out.2.1.len, hn10]; exact hkn
                    rw [List.getElem?_eq_getElem hkl]
                    have h1 := HI.out.1.mn.nums.1 _ (List.getElem_mem hkl)
                    have h2 := HI.out.2.2.2.1
                    show i64B (((ms.opn[0]'hkl).1 : Nat) : Int)
                    unfold i64B
                    omega)
                  have HCM := hide (mn_commit X wr g ms HI.out.1.mn (ids.getD 0 0) HTB.out (by have := HI.out.2.2.2.2.1; omega))
                  have HCB := hide (HI.out.2.1.commit HI.out.2.2.2.2.2.2.1 (by have := HI.out.2.2.2.2.1; omega) HI.out.1.mn.nums.2 HI.out.1.mn.srt HI.out.1.mn.few (k := 0) (by rw [hn10]; exact hkn))
                  have HNW := hide (fun h => HI.out.2.2.2.2.2.2.2.commit HI.out.2.2.2.2.2.2.1 HI.out.1.mn.srt (t := ids.getD 0 0) h)
                  have HSP := hide HI.out.2.2.2.2.2.2.2.1
                  have HBS := hide HI.out.1
                  have HNB : Hid (ids.length + i ≤ 16 ∧ ms.last ≤ 16 ∧ ms.now ≤ 1 + i ∧ now.length ≤ 4096 + 256 * i) := hide ⟨HI.out.2.2.1, HI.out.2.2.2.1, HI.out.2.2.2.2.1, HI.out.2.2.2.2.2.1⟩
                  clear HI HTB
                  generalize ids.getD 0 0 = T at *
                  generalize mCommit ms T = R at *
                  obtain ⟨R0, R1, R2, R3⟩ := R
                  dsimp only at HCM HCB HNW
                  go_wp2_with fail
                  refine HCM.out.mono ?_
                  rintro e V1 ⟨vd, rfl, hrow, hM, hF⟩
                  have HS1 := hide (HBS.out.step (hM.mono (fun i hi => .inl hi)) hF)
                  have HRD := hide hrow
                  obtain ⟨ad, cd, rfl⟩ := own_form hrow
                  clear hM hF hrow HCM HBS ct
                  have HBF : Hid (Below w.heap.size w V1) := hide (HB1.out.trans (HS1.out.lo.mono HWB.out))
                  rcases HCB.out.2.1 with hR3 | hR3
                  case inr =>
                    subst hR3
                    go_wp2
                    go_ret
                    exact ⟨rfl, HBF.out⟩
                  case inl =>
                    subst hR3
                    have HNX := hide (HNW.out rfl)
                    have HR9 := hide HS1.out.r9
                    have HIP : Hid (IsP V1 a9 now.length cn now) := hide (by
                      obtain ⟨a', c', e, h, _⟩ := own_isP rfl HR9.out
                      cases e
                      exact h)
                    have HIW : Hid (IsW V1 ad R1.length cd R1) := hide (own_isW rfl HRD.out)
                    have HAL := hide (all_any a9 now.length cn now ad R1.length cd R1 V1 HIP.out (fun h => own_none HR9.out h) HIW.out (by have h1 := HNB.out; have h2 := HCB.out.2.2.2.2.2.1; omega))
                    rw [docA_is R1 HSP.out] at HAL
                    have HLN2 : Hid ((allP now R1).length ≤ 4096 + 256 * (i + 1)) := hide (by have h1 := HNB.out; have h2 := HCB.out.2.2.2.2.2.1; have h3 := allP_len R1 now; omega)
                    have HCB2 : Hid (Bl R0 (ids.eraseIdx 0) ∧ Gd R0 ∧ R0.now ≤ ms.now + 1 ∧ R0.last = ms.last) := hide ⟨HCB.out.1, HCB.out.2.2.1, HCB.out.2.2.2.1, HCB.out.2.2.2.2.1⟩
                    clear HIP HIW HR9 HRD HNW HSP HCB
                    generalize allP now R1 = now2 at *
                    go_wp2_with fail
                    refine HAL.out.mono ?_
                    rintro e V2 ⟨v2, rfl, hr2, hb2⟩
                    obtain ⟨X2, hS2⟩ := HS1.out.put9 hb2 hr2
                    have HS2 := hide hS2
                    clear hr2 hb2 hS2 HAL HS1
                    have HR10 : Hid (V2.ownsRow B 3 1 (.slice (some ⟨g10, 0, none⟩) n cw) n (ids.flatMap ivc)) := hide (by have h := HS2.out.r10; unfold RowI at h; rw [hn10] at h; exact h)
                    have hg10 : g10 < V2.heap.size := (HR10.out.lt g10 rfl).2
                    have HBe : Hid (Below V2.heap.size V2 (V2.drew.alloc (.cells #[] 3))) := hide ((Below.refl _ V2).drew.alloc (Nat.le_refl _) _)
                    have HOe : Hid ((V2.drew.alloc (.cells #[] 3)).ownsRow V2.heap.size 3 1 (.slice (some ⟨V2.heap.size, 0, none⟩) 0 0) 0 (([] : List Int).flatMap ivc)) := hide (World.ownsRow_made V2.drew #[] 0 (Nat.le_refl _) (by decide) rfl)
                    have HRUN1 := hide (run_nums (cap := cw) (l := ids.take 0) (len := 0) ⟨g10, 0, none⟩ HOe.out (by rw [List.length_take, hn10]; omega) (fun j hj => by
                      rw [oadd0, Nat.zero_add, World.cell?_of_block (HBe.out.block g10 hg10), rowI_cells HR10.out j (by omega) hn10]
                      first | omega | simp [List.getD_eq_getElem?_getD, List.getElem?_take, hj]) (by omega) HBe.out.size)
                    have HRUN2 : Hid (∀ (v3 : Value) (w3 : World), w3.ownsRow V2.heap.size 3 1 v3 (0 + 0) (([] ++ ids.take 0).flatMap ivc) → (V2.drew.alloc (.cells #[] 3)).grownBy w3 (Value.slice (some ⟨V2.heap.size, 0, none⟩) 0 0).ownBlock → ∃ v4 w4, (Builtin.append_ #[54, 54] 54 #[v3, .slice (some ⟨g10, 1, none⟩) (n - (1)) (cw - (1))]).run Tryz.prog w3 = .ok v4 w4 ∧ w4.ownsRow V2.heap.size 3 1 v4 (n - 1) ((ids.eraseIdx 0).flatMap ivc) ∧ Below V2.heap.size V2 w4) := hide (fun v3 w3 ho3 hg3 => by
                      have hb3 : Below V2.heap.size V2 w3 := HBe.out.trans ((Below.refl _ _).grown hg3 HBe.out.size (fun k hk => Nat.le_of_eq (by simpa [Value.ownBlock] using hk)))
                      obtain ⟨v4, w4, hr4, ho4, hg4⟩ := run_nums (cap := cw - (1)) (l := ids.drop (1)) (len := n - (1)) ⟨g10, 1, none⟩ ho3 (by rw [List.length_drop, hn10]) (fun j hj => by
                        rw [oadd0]
                        rw [World.cell?_of_block (hb3.block g10 hg10), rowI_cells HR10.out (1 + j) (by omega) hn10]
                        first | (simp [List.getD_eq_getElem?_getD, List.getElem?_drop]; done) | (simp [List.getD_eq_getElem?_getD, List.getElem?_drop, Nat.add_comm]; done)) (by omega) hb3.size
                      refine ⟨v4, w4, hr4, ?_, hb3.trans ((Below.refl _ _).grown hg4 hb3.size (fun k hk => (ho3.lt k hk).1))⟩
                      rw [erase_split]
                      have e : 0 + 0 + (n - (1)) = n - 1 := by omega
                      rw [e] at ho4
                      simpa using ho4)
                    go_wp2_with fail
                    refine wp_region_last 10 (fun W' : World => True) (by kernel_rfl) trivial (fun hHeld => ?_)
                    refine wpAnyL_take (i := 1) (v := ?v1r6) rfl (by kernel_rfl) (fun _ _ _ h => h) (by assumption) (by rfl) ?hy1r6 ?hn1r6
                    case hy1r6 => (intro w hSw; (try dsimp only at hSw); skip; go_simp; try with_reducible rfl)
                    try simp only [Act.put]
                    refine wpAnyL_take (i := 2) (v := ?v2r6) rfl (by kernel_rfl) (fun _ _ _ h => h) (by assumption) (by rfl) ?hy2r6 ?hn2r6
                    case hy2r6 => (intro w hSw; (try dsimp only at hSw); skip; go_simp; try with_reducible rfl)
                    try simp only [Act.put]
                    refine wpAnyL_take (i := 3) (v := ?v3r6) rfl (by kernel_rfl) (fun _ _ _ h => h) (by assumption) (by rfl) ?hy3r6 ?hn3r6
                    case hy3r6 => (intro w hSw; (try dsimp only at hSw); skip; go_simp; try with_reducible rfl)
                    try simp only [Act.put]
                    refine wpAnyL_take (i := 5) (v := ?v5r6) rfl (by kernel_rfl) (fun _ _ _ h => h) (by assumption) (by rfl) ?hy5r6 ?hn5r6
                    case hy5r6 => (intro w hSw; (try dsimp only at hSw); skip; go_simp; try with_reducible rfl)
                    try simp only [Act.put]
                    refine wpAnyL_take (i := 6) (v := ?v6r6) rfl (by kernel_rfl) (fun _ _ _ h => h) (by assumption) (by rfl) ?hy6r6 ?hn6r6
                    case hy6r6 => (intro w hSw; (try dsimp only at hSw); skip; go_simp; try with_reducible rfl)
                    try simp only [Act.put]
                    refine wpAnyL_take (i := 7) (v := ?v7r6) rfl (by kernel_rfl) (fun _ _ _ h => h) (by assumption) (by rfl) ?hy7r6 ?hn7r6
                    case hy7r6 => (intro w hSw; (try dsimp only at hSw); skip; go_simp; try with_reducible rfl)
                    try simp only [Act.put]
                    refine wpAnyL_take (i := 8) (v := ?v8r6) rfl (by kernel_rfl) (fun _ _ _ h => h) (by assumption) (by rfl) ?hy8r6 ?hn8r6
                    case hy8r6 => (intro w hSw; (try dsimp only at hSw); skip; go_simp; try with_reducible rfl)
                    try simp only [Act.put]
                    refine wpAnyL_one (i := 0) rfl (by kernel_rfl) (fun K hK => ?_)
                    go_simp
                    refine hK.out _ _ trivial (fun hHeld => ?_)
                    clear hK K
                    try simp only [Act.put]
                    refine wpAnyL_one (i := 4) rfl (by kernel_rfl) (fun K hK => ?_)
                    obtain ⟨v3, w3, hr3, ho3, hg3⟩ := HRUN1.out
                    have HO3 := hide ho3
                    have HG3 := hide hg3
                    obtain ⟨a3, c3, rfl⟩ := own_form HO3.out
                    refine wp_append_eq _ _ 54 rfl rfl rfl hr3 ?_
                    refine hK.out _ _ trivial (fun hHeld => ?_)
                    clear hK K ho3 hg3 hr3
                    try simp only [Act.put]
                    refine wpAnyL_one (i := 9) rfl (by kernel_rfl) (fun K hK => ?_)
                    obtain ⟨v4, w4, hr4, ho4, hb4⟩ := HRUN2.out _ _ HO3.out HG3.out
                    have HO4 := hide ho4
                    have HB4 := hide hb4
                    obtain ⟨a4, c4, rfl⟩ := own_form HO4.out
                    refine wp_append_eq _ _ 54 rfl rfl rfl hr4 ?_
                    refine hK.out _ _ trivial (fun hHeld => ?_)
                    clear hK K ho4 hb4 hr4
                    try simp only [Act.put]
                    refine wpAnyL_last rfl (by kernel_rfl) (by kernel_rfl) (fun K hK => ?_)
                    go_simp
                    refine hK.out _ _ ?_
                    clear hK K hHeld
                    obtain ⟨X3, hS3⟩ := HS2.out.put10 HB4.out (v' := .slice a4 (n - 1) c4) (ids' := ids.eraseIdx 0) (by
                      unfold RowI
                      rw [List.length_eraseIdx, hn10, if_pos hkn]
                      exact HO4.out)
                    have HS4 := hide hS3
                    have HLE2 : Hid ((ids.eraseIdx 0).length = n - 1) := hide (by rw [List.length_eraseIdx, hn10, if_pos hkn])
                    clear hS3 HB4 HO4 HO3 HG3 HRUN1 HRUN2 HOe HBe HR10 HS2
                    go_wp2
                    go_roundw
                    case rel => exact ⟨i + 1, R0, X3, now2, ids.eraseIdx 0, by have := HNB.out.1; omega, by simp, hide ⟨HS4.out, HCB2.out.1, by rw [HLE2.out]; have := HNB.out.1; omega, by rw [HCB2.out.2.2.2]; exact HNB.out.2.1, by have h1 := HCB2.out.2.2.1; have h2 := HNB.out.2.2.1; omega, HLN2.out, HCB2.out.2.1, HNX.out⟩⟩
                    case measure => simp [slLen]; omega
        · have hx1 : ((k : Int) == 16) = false := by simp; omega
          have hx2 : ¬ (k : Int) = 16 := by omega
          by_cases h1000 : 1000 < len
          · have hy1 : (1000 : Int) < (len : Int) := by omega
            go_wp2
            go_loopw [9, 10, 17] (fun v9 v10 v17 wr => ∃ (i : Nat) (ms : Mg) (X : Nat → Prop) (now : List Pr) (ids : List Int), i ≤ 16 ∧ v17 = .int .i64 (i : Nat) ∧ Hid (BS B w1 wr g ms X v9 v10 now ids ∧ Bl ms ids ∧ ids.length + i ≤ 16 ∧ ms.last ≤ 16 ∧ ms.now ≤ 1 + i ∧ now.length ≤ 4096 + 256 * i ∧ Gd ms ∧ NowIs ms now)) (fun _ v10 _ _ => slLen v10)
            case atStart => exact ⟨0, ms, X, l, ids, Nat.zero_le _, rfl, hide ⟨by have := HI.out.1; rw [hlen] at this; exact this, HI.out.2.1, by have := HI.out.2.2.1; omega, by have := HI.out.2.2.2.1; omega, by have := HI.out.2.2.2.2.1; omega, HLF.out, HI.out.2.2.2.2.2.1, HI.out.2.2.2.2.2.2⟩⟩
            case round =>
              clear HI HI' hlen
              obtain ⟨i, ms, X, now, ids, hi16, rfl, HI⟩ := hrel
              obtain ⟨a9, cn, rfl⟩ := own_form HI.out.1.r9
              by_cases hz : ids.length = 0
              · obtain ⟨a10, cw, rfl⟩ := own_form HI.out.1.r10
                rw [hz]
                have hE1 : ¬ (0 : Int) < ((0 : Nat) : Int) := by omega
                have hOP : ms.opn.length = 0 := by rw [← HI.out.2.1.len]; exact hz
                have HBE := hide (HI.out.2.1.begin (by omega))
                have HBG := hide (mn_begin X wr g ms HI.out.1.mn (by have := HI.out.2.2.2.1; omega))
                rw [HBE.out.1] at HBG
                dsimp only at HBG
                have HFS := hide (fresh_scan HI.out.2.2.2.2.2.2.2 HI.out.2.2.2.2.2.2.1 HI.out.1.mn.nums.1)
                have HT : Hid (-9223372036854775808 ≤ (ms.last : Int) + 1 ∧ (ms.last : Int) + 1 ≤ 9223372036854775807) := hide (by have := HI.out.2.2.2.1; omega)
                have HBS := hide HI.out.1
                clear HI HBE hOP
                generalize (ms.last : Int) + 1 = T at *
                generalize ms.begun = m1 at *
                go_wp2_with fail
                refine HBG.out.mono ?_
                rintro e V1 ⟨rfl, hM, hF⟩
                have HS1 := hide (HBS.out.step hM hF)
                have HSC := hide (mn_scan X V1 g m1 hM T HT.out ⟨#[]⟩ ⟨#[]⟩)
                rw [HFS.out.1] at HSC
                clear hM hF HBG HBS
                go_wp2_with fail
                refine HSC.out.mono ?_
                rintro e V2 ⟨v8, l8, rfl, hr8, hsl, hM, hF⟩
                obtain rfl := HFS.out.2 l8 hsl
                obtain ⟨a8, c8, rfl⟩ := own_form hr8
                have HS2 := hide (HS1.out.step (hM.mono (fun i hi => .inl hi)) hF)
                have HI8 : Hid (IsP V2 a8 l8.length c8 l8) := hide (by
                  obtain ⟨a', c', e, h, _⟩ := own_isP rfl hr8
                  cases e
                  exact h)
                have HI9 : Hid (IsP V2 a9 l8.length cn l8) := hide (by
                  obtain ⟨a', c', e, h, _⟩ := own_isP rfl HS2.out.r9
                  cases e
                  exact h)
                have HSM := hide (sameP_any a8 _ c8 l8 a9 _ cn l8 V2 HI8.out HI9.out)
                have HBF : Hid (Below w.heap.size w V2) := hide (HB1.out.trans (HS2.out.lo.mono HWB.out))
                clear hr8 hsl hM hF HSC HFS HI8 HI9 HS1 HS2
                go_wp2_with fail
                refine HSM.out.mono ?_
                rintro e V3 ⟨⟨q, rfl, hq⟩, hb3⟩
                obtain rfl : q = true := hq.2 (by simp)
                have HB3 := hide (HBF.out.trans (hb3.mono HBF.out.size))
                clear hb3 hq HSM
                go_wp2
                go_ret
                exact ⟨rfl, HB3.out⟩
              · obtain ⟨g10, cw, rfl, hncw, hcwm, hg10⟩ := rowI_form HI.out.1.r10 (by omega)
                obtain ⟨n, hn10⟩ : ∃ n, ids.length = n := ⟨_, rfl⟩
                have HR10 : Hid (wr.ownsRow B 3 1 (.slice (some ⟨g10, 0, none⟩) n cw) n (ids.flatMap ivc)) := hide (by have h := HI.out.1.r10; unfold RowI at h; rw [hn10] at h; exact h)
                rw [hn10] at hz hncw
                rw [hn10]
                have hcw : cw ≤ 9223372036854775807 := hcwm
                have hn16 : n ≤ 16 := by have := HI.out.2.2.1; omega
                have hnp : (0 : Int) < (n : Int) := by omega
                have hn0 : ¬ (n : Int) = 0 := by omega
                have hn0b : ((n : Int) == 0) = false := by simpa using hn0
                have hw3 : IntKind.i64.wrap ((i : Int) + 1) = (i : Int) + 1 := wr64' (by omega) (by omega)
                have hp4 : (0 : Int) ≤ (i : Int) := by omega
                obtain ⟨HOb⟩ : Nonempty (∀ j, j < on → ∃ b off, oa = some ⟨b, off, none⟩ ∧ i64B (ol.getD j 0) ∧ wr.cell? ⟨b, off + j, none⟩ = some (.int .i64 (ol.getD j 0))) := ⟨fun j hj => by
                  obtain ⟨ht, b, off, e, hb, hc⟩ := HOO.out.2.2.2 j hj
                  exact ⟨b, off, e, ht, (World.cell?_of_block ((HB1.out.trans (HI.out.1.lo.mono HWB.out)).block b hb)).trans hc⟩⟩
                by_cases hio : i < on
                · obtain ⟨bo, offo, rfl, htx, cx⟩ := HOb i hio
                  clear HOb
                  have hiO : (i : Int) < (on : Int) := by omega
                  generalize ol.getD i 0 = xo at *
                  by_cases hxo : 0 < xo
                  · obtain ⟨kk, hkk⟩ : ∃ kk : Nat, (kk : Int) = xo.tmod (n : Int) := ⟨(xo.tmod (n : Int)).toNat, Int.toNat_of_nonneg (Int.tmod_nonneg _ (by omega))⟩
                    have hkn : kk < n := by
                      have := Int.tmod_lt_of_pos xo hnp
                      omega
                    have hkw : IntKind.i64.wrap (kk : Int) = (kk : Int) := wr64' (by omega) (by omega)
                    have hkk2 : xo.tmod (n : Int) = (kk : Int) := hkk.symm
                    clear hkk
                    have hKn : (kk : Int) < (n : Int) := by omega
                    have hKc : (kk : Int) ≤ (cw : Int) := by omega
                    have hKc1 : (kk : Int) + 1 ≤ (cw : Int) := by omega
                    have hKn1 : (kk : Int) + 1 ≤ (n : Int) := by omega
                    have hK0 : (0 : Int) ≤ (kk : Int) := by omega
                    have hK01 : (0 : Int) ≤ (kk : Int) + 1 := by omega
                    have hKw : IntKind.i64.wrap ((kk : Int) + 1) = (kk : Int) + 1 := wr64' (by omega) (by omega)
                    by_cases hcK : cw = kk + 1
                    · have HCK := hide hcK
                      have hcK1 : (cw = kk + 1) = True := eq_true hcK
                      clear hcK
                      have ct : wr.cell? ⟨g10, kk, none⟩ = some (.int .i64 (ids.getD kk 0)) := rowI_cells HR10.out kk hkn hn10
                      have HTB : Hid (i64B (ids.getD kk 0)) := hide (by
                        rw [HI.out.2.1.num, List.getD_eq_getElem?_getD, List.getElem?_map]
                        have hkl : kk < ms.opn.length := by rw [← HI.out.2.1.len, hn10]; exact hkn
                        rw [List.getElem?_eq_getElem hkl]
                        have h1 := HI.out.1.mn.nums.1 _ (List.getElem_mem hkl)
                        have h2 := HI.out.2.2.2.1
                        show i64B (((ms.opn[kk]'hkl).1 : Nat) : Int)
                        unfold i64B
                        omega)
                      have HCM := hide (mn_commit X wr g ms HI.out.1.mn (ids.getD kk 0) HTB.out (by have := HI.out.2.2.2.2.1; omega))
                      have HCB := hide (HI.out.2.1.commit HI.out.2.2.2.2.2.2.1 (by have := HI.out.2.2.2.2.1; omega) HI.out.1.mn.nums.2 HI.out.1.mn.srt HI.out.1.mn.few (k := kk) (by rw [hn10]; exact hkn))
                      have HNW := hide (fun h => HI.out.2.2.2.2.2.2.2.commit HI.out.2.2.2.2.2.2.1 HI.out.1.mn.srt (t := ids.getD kk 0) h)
                      have HSP := hide HI.out.2.2.2.2.2.2.2.1
                      have HBS := hide HI.out.1
                      have HNB : Hid (ids.length + i ≤ 16 ∧ ms.last ≤ 16 ∧ ms.now ≤ 1 + i ∧ now.length ≤ 4096 + 256 * i) := hide ⟨HI.out.2.2.1, HI.out.2.2.2.1, HI.out.2.2.2.2.1, HI.out.2.2.2.2.2.1⟩
                      clear HI HTB
                      generalize ids.getD kk 0 = T at *
                      generalize mCommit ms T = R at *
                      obtain ⟨R0, R1, R2, R3⟩ := R
                      dsimp only at HCM HCB HNW
                      go_wp2_with fail
                      refine HCM.out.mono ?_
                      rintro e V1 ⟨vd, rfl, hrow, hM, hF⟩
                      have HS1 := hide (HBS.out.step (hM.mono (fun i hi => .inl hi)) hF)
                      have HRD := hide hrow
                      obtain ⟨ad, cd, rfl⟩ := own_form hrow
                      clear hM hF hrow HCM HBS ct
                      have HBF : Hid (Below w.heap.size w V1) := hide (HB1.out.trans (HS1.out.lo.mono HWB.out))
                      rcases HCB.out.2.1 with hR3 | hR3
                      case inr =>
                        subst hR3
                        go_wp2
                        go_ret
                        exact ⟨rfl, HBF.out⟩
                      case inl =>
                        subst hR3
                        have HNX := hide (HNW.out rfl)
                        have HR9 := hide HS1.out.r9
                        have HIP : Hid (IsP V1 a9 now.length cn now) := hide (by
                          obtain ⟨a', c', e, h, _⟩ := own_isP rfl HR9.out
                          cases e
                          exact h)
                        have HIW : Hid (IsW V1 ad R1.length cd R1) := hide (own_isW rfl HRD.out)
                        have HAL := hide (all_any a9 now.length cn now ad R1.length cd R1 V1 HIP.out (fun h => own_none HR9.out h) HIW.out (by have h1 := HNB.out; have h2 := HCB.out.2.2.2.2.2.1; omega))
                        rw [docA_is R1 HSP.out] at HAL
                        have HLN2 : Hid ((allP now R1).length ≤ 4096 + 256 * (i + 1)) := hide (by have h1 := HNB.out; have h2 := HCB.out.2.2.2.2.2.1; have h3 := allP_len R1 now; omega)
                        have HCB2 : Hid (Bl R0 (ids.eraseIdx kk) ∧ Gd R0 ∧ R0.now ≤ ms.now + 1 ∧ R0.last = ms.last) := hide ⟨HCB.out.1, HCB.out.2.2.1, HCB.out.2.2.2.1, HCB.out.2.2.2.2.1⟩
                        clear HIP HIW HR9 HRD HNW HSP HCB
                        generalize allP now R1 = now2 at *
                        go_wp2_with fail
                        refine HAL.out.mono ?_
                        rintro e V2 ⟨v2, rfl, hr2, hb2⟩
                        obtain ⟨X2, hS2⟩ := HS1.out.put9 hb2 hr2
                        have HS2 := hide hS2
                        clear hr2 hb2 hS2 HAL HS1
                        have HR10 : Hid (V2.ownsRow B 3 1 (.slice (some ⟨g10, 0, none⟩) n cw) n (ids.flatMap ivc)) := hide (by have h := HS2.out.r10; unfold RowI at h; rw [hn10] at h; exact h)
                        have hg10 : g10 < V2.heap.size := (HR10.out.lt g10 rfl).2
                        have HBe : Hid (Below V2.heap.size V2 (V2.drew.alloc (.cells #[] 3))) := hide ((Below.refl _ V2).drew.alloc (Nat.le_refl _) _)
                        have HOe : Hid ((V2.drew.alloc (.cells #[] 3)).ownsRow V2.heap.size 3 1 (.slice (some ⟨V2.heap.size, 0, none⟩) 0 0) 0 (([] : List Int).flatMap ivc)) := hide (World.ownsRow_made V2.drew #[] 0 (Nat.le_refl _) (by decide) rfl)
                        have HRUN1 := hide (run_nums (cap := cw) (l := ids.take kk) (len := kk) ⟨g10, 0, none⟩ HOe.out (by rw [List.length_take, hn10]; omega) (fun j hj => by
                          rw [oadd0, Nat.zero_add, World.cell?_of_block (HBe.out.block g10 hg10), rowI_cells HR10.out j (by omega) hn10]
                          first | omega | simp [List.getD_eq_getElem?_getD, List.getElem?_take, hj]) (by omega) HBe.out.size)
                        have HRUN2 : Hid (∀ (v3 : Value) (w3 : World), w3.ownsRow V2.heap.size 3 1 v3 (0 + kk) (([] ++ ids.take kk).flatMap ivc) → (V2.drew.alloc (.cells #[] 3)).grownBy w3 (Value.slice (some ⟨V2.heap.size, 0, none⟩) 0 0).ownBlock → ∃ v4 w4, (Builtin.append_ #[54, 54] 54 #[v3, .slice (some ⟨g10, 0, none⟩) (n - (kk + 1)) (cw - (kk + 1))]).run Tryz.prog w3 = .ok v4 w4 ∧ w4.ownsRow V2.heap.size 3 1 v4 (n - 1) ((ids.eraseIdx kk).flatMap ivc) ∧ Below V2.heap.size V2 w4) := hide (fun v3 w3 ho3 hg3 => by
                          have hb3 : Below V2.heap.size V2 w3 := HBe.out.trans ((Below.refl _ _).grown hg3 HBe.out.size (fun k hk => Nat.le_of_eq (by simpa [Value.ownBlock] using hk)))
                          obtain ⟨v4, w4, hr4, ho4, hg4⟩ := run_nums (cap := cw - (kk + 1)) (l := ids.drop (kk + 1)) (len := n - (kk + 1)) ⟨g10, 0, none⟩ ho3 (by rw [List.length_drop, hn10]) (fun j hj => by
                            have := HCK.out
                            omega) (by omega) hb3.size
                          refine ⟨v4, w4, hr4, ?_, hb3.trans ((Below.refl _ _).grown hg4 hb3.size (fun k hk => (ho3.lt k hk).1))⟩
                          rw [erase_split]
                          have e : 0 + kk + (n - (kk + 1)) = n - 1 := by omega
                          rw [e] at ho4
                          simpa using ho4)
                        go_wp2_with fail
                        refine wp_region_last 10 (fun W' : World => True) (by kernel_rfl) trivial (fun hHeld => ?_)
                        refine wpAnyL_take (i := 1) (v := ?v1r7) rfl (by kernel_rfl) (fun _ _ _ h => h) (by assumption) (by rfl) ?hy1r7 ?hn1r7
                        case hy1r7 => (intro w hSw; (try dsimp only at hSw); skip; go_simp; try with_reducible rfl)
                        try simp only [Act.put]
                        refine wpAnyL_take (i := 2) (v := ?v2r7) rfl (by kernel_rfl) (fun _ _ _ h => h) (by assumption) (by rfl) ?hy2r7 ?hn2r7
                        case hy2r7 => (intro w hSw; (try dsimp only at hSw); skip; go_simp; try with_reducible rfl)
                        try simp only [Act.put]
                        refine wpAnyL_take (i := 3) (v := ?v3r7) rfl (by kernel_rfl) (fun _ _ _ h => h) (by assumption) (by rfl) ?hy3r7 ?hn3r7
                        case hy3r7 => (intro w hSw; (try dsimp only at hSw); skip; go_simp; try with_reducible rfl)
                        try simp only [Act.put]
                        refine wpAnyL_take (i := 5) (v := ?v5r7) rfl (by kernel_rfl) (fun _ _ _ h => h) (by assumption) (by rfl) ?hy5r7 ?hn5r7
                        case hy5r7 => (intro w hSw; (try dsimp only at hSw); skip; go_simp; try with_reducible rfl)
                        try simp only [Act.put]
                        refine wpAnyL_take (i := 6) (v := ?v6r7) rfl (by kernel_rfl) (fun _ _ _ h => h) (by assumption) (by rfl) ?hy6r7 ?hn6r7
                        case hy6r7 => (intro w hSw; (try dsimp only at hSw); skip; go_simp; try with_reducible rfl)
                        try simp only [Act.put]
                        refine wpAnyL_take (i := 7) (v := ?v7r7) rfl (by kernel_rfl) (fun _ _ _ h => h) (by assumption) (by rfl) ?hy7r7 ?hn7r7
                        case hy7r7 => (intro w hSw; (try dsimp only at hSw); skip; go_simp; try with_reducible rfl)
                        try simp only [Act.put]
                        refine wpAnyL_take (i := 8) (v := ?v8r7) rfl (by kernel_rfl) (fun _ _ _ h => h) (by assumption) (by rfl) ?hy8r7 ?hn8r7
                        case hy8r7 => (intro w hSw; (try dsimp only at hSw); skip; go_simp; try with_reducible rfl)
                        try simp only [Act.put]
                        refine wpAnyL_one (i := 0) rfl (by kernel_rfl) (fun K hK => ?_)
                        go_simp
                        refine hK.out _ _ trivial (fun hHeld => ?_)
                        clear hK K
                        try simp only [Act.put]
                        refine wpAnyL_one (i := 4) rfl (by kernel_rfl) (fun K hK => ?_)
                        obtain ⟨v3, w3, hr3, ho3, hg3⟩ := HRUN1.out
                        have HO3 := hide ho3
                        have HG3 := hide hg3
                        obtain ⟨a3, c3, rfl⟩ := own_form HO3.out
                        refine wp_append_eq _ _ 54 rfl rfl rfl hr3 ?_
                        refine hK.out _ _ trivial (fun hHeld => ?_)
                        clear hK K ho3 hg3 hr3
                        try simp only [Act.put]
                        refine wpAnyL_one (i := 9) rfl (by kernel_rfl) (fun K hK => ?_)
                        obtain ⟨v4, w4, hr4, ho4, hb4⟩ := HRUN2.out _ _ HO3.out HG3.out
                        have HO4 := hide ho4
                        have HB4 := hide hb4
                        obtain ⟨a4, c4, rfl⟩ := own_form HO4.out
                        refine wp_append_eq _ _ 54 rfl rfl rfl hr4 ?_
                        refine hK.out _ _ trivial (fun hHeld => ?_)
                        clear hK K ho4 hb4 hr4
                        try simp only [Act.put]
                        refine wpAnyL_last rfl (by kernel_rfl) (by kernel_rfl) (fun K hK => ?_)
                        go_simp
                        refine hK.out _ _ ?_
                        clear hK K hHeld
                        obtain ⟨X3, hS3⟩ := HS2.out.put10 HB4.out (v' := .slice a4 (n - 1) c4) (ids' := ids.eraseIdx kk) (by
                          unfold RowI
                          rw [List.length_eraseIdx, hn10, if_pos hkn]
                          exact HO4.out)
                        have HS4 := hide hS3
                        have HLE2 : Hid ((ids.eraseIdx kk).length = n - 1) := hide (by rw [List.length_eraseIdx, hn10, if_pos hkn])
                        clear hS3 HB4 HO4 HO3 HG3 HRUN1 HRUN2 HOe HBe HR10 HS2
                        go_wp2
                        go_roundw
                        case rel => exact ⟨i + 1, R0, X3, now2, ids.eraseIdx kk, by have := HNB.out.1; omega, by simp, hide ⟨HS4.out, HCB2.out.1, by rw [HLE2.out]; have := HNB.out.1; omega, by rw [HCB2.out.2.2.2]; exact HNB.out.2.1, by have h1 := HCB2.out.2.2.1; have h2 := HNB.out.2.2.1; omega, HLN2.out, HCB2.out.2.1, HNX.out⟩⟩
                        case measure => simp [slLen]; omega
                    · have hcK2 : ¬ (cw : Int) = (kk : Int) + 1 := by omega
                      have ct : wr.cell? ⟨g10, kk, none⟩ = some (.int .i64 (ids.getD kk 0)) := rowI_cells HR10.out kk hkn hn10
                      have HTB : Hid (i64B (ids.getD kk 0)) := hide (by
                        rw [HI.out.2.1.num, List.getD_eq_getElem?_getD, List.getElem?_map]
                        have hkl : kk < ms.opn.length := by rw [← HI.out.2.1.len, hn10]; exact hkn
                        rw [List.getElem?_eq_getElem hkl]
                        have h1 := HI.out.1.mn.nums.1 _ (List.getElem_mem hkl)
                        have h2 := HI.out.2.2.2.1
                        show i64B (((ms.opn[kk]'hkl).1 : Nat) : Int)
                        unfold i64B
                        omega)
                      have HCM := hide (mn_commit X wr g ms HI.out.1.mn (ids.getD kk 0) HTB.out (by have := HI.out.2.2.2.2.1; omega))
                      have HCB := hide (HI.out.2.1.commit HI.out.2.2.2.2.2.2.1 (by have := HI.out.2.2.2.2.1; omega) HI.out.1.mn.nums.2 HI.out.1.mn.srt HI.out.1.mn.few (k := kk) (by rw [hn10]; exact hkn))
                      have HNW := hide (fun h => HI.out.2.2.2.2.2.2.2.commit HI.out.2.2.2.2.2.2.1 HI.out.1.mn.srt (t := ids.getD kk 0) h)
                      have HSP := hide HI.out.2.2.2.2.2.2.2.1
                      have HBS := hide HI.out.1
                      have HNB : Hid (ids.length + i ≤ 16 ∧ ms.last ≤ 16 ∧ ms.now ≤ 1 + i ∧ now.length ≤ 4096 + 256 * i) := hide ⟨HI.out.2.2.1, HI.out.2.2.2.1, HI.out.2.2.2.2.1, HI.out.2.2.2.2.2.1⟩
                      clear HI HTB
                      generalize ids.getD kk 0 = T at *
                      generalize mCommit ms T = R at *
                      obtain ⟨R0, R1, R2, R3⟩ := R
                      dsimp only at HCM HCB HNW
                      go_wp2_with fail
                      refine HCM.out.mono ?_
                      rintro e V1 ⟨vd, rfl, hrow, hM, hF⟩
                      have HS1 := hide (HBS.out.step (hM.mono (fun i hi => .inl hi)) hF)
                      have HRD := hide hrow
                      obtain ⟨ad, cd, rfl⟩ := own_form hrow
                      clear hM hF hrow HCM HBS ct
                      have HBF : Hid (Below w.heap.size w V1) := hide (HB1.out.trans (HS1.out.lo.mono HWB.out))
                      rcases HCB.out.2.1 with hR3 | hR3
                      case inr =>
                        subst hR3
                        go_wp2
                        go_ret
                        exact ⟨rfl, HBF.out⟩
                      case inl =>
                        subst hR3
                        have HNX := hide (HNW.out rfl)
                        have HR9 := hide HS1.out.r9
                        have HIP : Hid (IsP V1 a9 now.length cn now) := hide (by
                          obtain ⟨a', c', e, h, _⟩ := own_isP rfl HR9.out
                          cases e
                          exact h)
                        have HIW : Hid (IsW V1 ad R1.length cd R1) := hide (own_isW rfl HRD.out)
                        have HAL := hide (all_any a9 now.length cn now ad R1.length cd R1 V1 HIP.out (fun h => own_none HR9.out h) HIW.out (by have h1 := HNB.out; have h2 := HCB.out.2.2.2.2.2.1; omega))
                        rw [docA_is R1 HSP.out] at HAL
                        have HLN2 : Hid ((allP now R1).length ≤ 4096 + 256 * (i + 1)) := hide (by have h1 := HNB.out; have h2 := HCB.out.2.2.2.2.2.1; have h3 := allP_len R1 now; omega)
                        have HCB2 : Hid (Bl R0 (ids.eraseIdx kk) ∧ Gd R0 ∧ R0.now ≤ ms.now + 1 ∧ R0.last = ms.last) := hide ⟨HCB.out.1, HCB.out.2.2.1, HCB.out.2.2.2.1, HCB.out.2.2.2.2.1⟩
                        clear HIP HIW HR9 HRD HNW HSP HCB
                        generalize allP now R1 = now2 at *
                        go_wp2_with fail
                        refine HAL.out.mono ?_
                        rintro e V2 ⟨v2, rfl, hr2, hb2⟩
                        obtain ⟨X2, hS2⟩ := HS1.out.put9 hb2 hr2
                        have HS2 := hide hS2
                        clear hr2 hb2 hS2 HAL HS1
                        have HR10 : Hid (V2.ownsRow B 3 1 (.slice (some ⟨g10, 0, none⟩) n cw) n (ids.flatMap ivc)) := hide (by have h := HS2.out.r10; unfold RowI at h; rw [hn10] at h; exact h)
                        have hg10 : g10 < V2.heap.size := (HR10.out.lt g10 rfl).2
                        have HBe : Hid (Below V2.heap.size V2 (V2.drew.alloc (.cells #[] 3))) := hide ((Below.refl _ V2).drew.alloc (Nat.le_refl _) _)
                        have HOe : Hid ((V2.drew.alloc (.cells #[] 3)).ownsRow V2.heap.size 3 1 (.slice (some ⟨V2.heap.size, 0, none⟩) 0 0) 0 (([] : List Int).flatMap ivc)) := hide (World.ownsRow_made V2.drew #[] 0 (Nat.le_refl _) (by decide) rfl)
                        have HRUN1 := hide (run_nums (cap := cw) (l := ids.take kk) (len := kk) ⟨g10, 0, none⟩ HOe.out (by rw [List.length_take, hn10]; omega) (fun j hj => by
                          rw [oadd0, Nat.zero_add, World.cell?_of_block (HBe.out.block g10 hg10), rowI_cells HR10.out j (by omega) hn10]
                          first | omega | simp [List.getD_eq_getElem?_getD, List.getElem?_take, hj]) (by omega) HBe.out.size)
                        have HRUN2 : Hid (∀ (v3 : Value) (w3 : World), w3.ownsRow V2.heap.size 3 1 v3 (0 + kk) (([] ++ ids.take kk).flatMap ivc) → (V2.drew.alloc (.cells #[] 3)).grownBy w3 (Value.slice (some ⟨V2.heap.size, 0, none⟩) 0 0).ownBlock → ∃ v4 w4, (Builtin.append_ #[54, 54] 54 #[v3, .slice (some ⟨g10, kk + 1, none⟩) (n - (kk + 1)) (cw - (kk + 1))]).run Tryz.prog w3 = .ok v4 w4 ∧ w4.ownsRow V2.heap.size 3 1 v4 (n - 1) ((ids.eraseIdx kk).flatMap ivc) ∧ Below V2.heap.size V2 w4) := hide (fun v3 w3 ho3 hg3 => by
                          have hb3 : Below V2.heap.size V2 w3 := HBe.out.trans ((Below.refl _ _).grown hg3 HBe.out.size (fun k hk => Nat.le_of_eq (by simpa [Value.ownBlock] using hk)))
                          obtain ⟨v4, w4, hr4, ho4, hg4⟩ := run_nums (cap := cw - (kk + 1)) (l := ids.drop (kk + 1)) (len := n - (kk + 1)) ⟨g10, kk + 1, none⟩ ho3 (by rw [List.length_drop, hn10]) (fun j hj => by
                            rw [oadd0]
                            rw [World.cell?_of_block (hb3.block g10 hg10), rowI_cells HR10.out (kk + 1 + j) (by omega) hn10]
                            first | (simp [List.getD_eq_getElem?_getD, List.getElem?_drop]; done) | (simp [List.getD_eq_getElem?_getD, List.getElem?_drop, Nat.add_comm]; done)) (by omega) hb3.size
                          refine ⟨v4, w4, hr4, ?_, hb3.trans ((Below.refl _ _).grown hg4 hb3.size (fun k hk => (ho3.lt k hk).1))⟩
                          rw [erase_split]
                          have e : 0 + kk + (n - (kk + 1)) = n - 1 := by omega
                          rw [e] at ho4
                          simpa using ho4)
                        go_wp2_with fail
                        refine wp_region_last 10 (fun W' : World => True) (by kernel_rfl) trivial (fun hHeld => ?_)
                        refine wpAnyL_take (i := 1) (v := ?v1r8) rfl (by kernel_rfl) (fun _ _ _ h => h) (by assumption) (by rfl) ?hy1r8 ?hn1r8
                        case hy1r8 => (intro w hSw; (try dsimp only at hSw); skip; go_simp; try with_reducible rfl)
                        try simp only [Act.put]
                        refine wpAnyL_take (i := 2) (v := ?v2r8) rfl (by kernel_rfl) (fun _ _ _ h => h) (by assumption) (by rfl) ?hy2r8 ?hn2r8
                        case hy2r8 => (intro w hSw; (try dsimp only at hSw); skip; go_simp; try with_reducible rfl)
                        try simp only [Act.put]
                        refine wpAnyL_take (i := 3) (v := ?v3r8) rfl (by kernel_rfl) (fun _ _ _ h => h) (by assumption) (by rfl) ?hy3r8 ?hn3r8
                        case hy3r8 => (intro w hSw; (try dsimp only at hSw); skip; go_simp; try with_reducible rfl)
                        try simp only [Act.put]
                        refine wpAnyL_take (i := 5) (v := ?v5r8) rfl (by kernel_rfl) (fun _ _ _ h => h) (by assumption) (by rfl) ?hy5r8 ?hn5r8
                        case hy5r8 => (intro w hSw; (try dsimp only at hSw); skip; go_simp; try with_reducible rfl)
                        try simp only [Act.put]
                        refine wpAnyL_take (i := 6) (v := ?v6r8) rfl (by kernel_rfl) (fun _ _ _ h => h) (by assumption) (by rfl) ?hy6r8 ?hn6r8
                        case hy6r8 => (intro w hSw; (try dsimp only at hSw); skip; go_simp; try with_reducible rfl)
                        try simp only [Act.put]
                        refine wpAnyL_take (i := 7) (v := ?v7r8) rfl (by kernel_rfl) (fun _ _ _ h => h) (by assumption) (by rfl) ?hy7r8 ?hn7r8
                        case hy7r8 => (intro w hSw; (try dsimp only at hSw); skip; go_simp; try with_reducible rfl)
                        try simp only [Act.put]
                        refine wpAnyL_take (i := 8) (v := ?v8r8) rfl (by kernel_rfl) (fun _ _ _ h => h) (by assumption) (by rfl) ?hy8r8 ?hn8r8
                        case hy8r8 => (intro w hSw; (try dsimp only at hSw); skip; go_simp; try with_reducible rfl)
                        try simp only [Act.put]
                        refine wpAnyL_one (i := 0) rfl (by kernel_rfl) (fun K hK => ?_)
                        go_simp
                        refine hK.out _ _ trivial (fun hHeld => ?_)
                        clear hK K
                        try simp only [Act.put]
                        refine wpAnyL_one (i := 4) rfl (by kernel_rfl) (fun K hK => ?_)
                        obtain ⟨v3, w3, hr3, ho3, hg3⟩ := HRUN1.out
                        have HO3 := hide ho3
                        have HG3 := hide hg3
                        obtain ⟨a3, c3, rfl⟩ := own_form HO3.out
                        refine wp_append_eq _ _ 54 rfl rfl rfl hr3 ?_
                        refine hK.out _ _ trivial (fun hHeld => ?_)
                        clear hK K ho3 hg3 hr3
                        try simp only [Act.put]
                        refine wpAnyL_one (i := 9) rfl (by kernel_rfl) (fun K hK => ?_)
                        obtain ⟨v4, w4, hr4, ho4, hb4⟩ := HRUN2.out _ _ HO3.out HG3.out
                        have HO4 := hide ho4
                        have HB4 := hide hb4
                        obtain ⟨a4, c4, rfl⟩ := own_form HO4.out
                        refine wp_append_eq _ _ 54 rfl rfl rfl hr4 ?_
                        refine hK.out _ _ trivial (fun hHeld => ?_)
                        clear hK K ho4 hb4 hr4
                        try simp only [Act.put]
                        refine wpAnyL_last rfl (by kernel_rfl) (by kernel_rfl) (fun K hK => ?_)
                        go_simp
                        refine hK.out _ _ ?_
                        clear hK K hHeld
                        obtain ⟨X3, hS3⟩ := HS2.out.put10 HB4.out (v' := .slice a4 (n - 1) c4) (ids' := ids.eraseIdx kk) (by
                          unfold RowI
                          rw [List.length_eraseIdx, hn10, if_pos hkn]
                          exact HO4.out)
                        have HS4 := hide hS3
                        have HLE2 : Hid ((ids.eraseIdx kk).length = n - 1) := hide (by rw [List.length_eraseIdx, hn10, if_pos hkn])
                        clear hS3 HB4 HO4 HO3 HG3 HRUN1 HRUN2 HOe HBe HR10 HS2
                        go_wp2
                        go_roundw
                        case rel => exact ⟨i + 1, R0, X3, now2, ids.eraseIdx kk, by have := HNB.out.1; omega, by simp, hide ⟨HS4.out, HCB2.out.1, by rw [HLE2.out]; have := HNB.out.1; omega, by rw [HCB2.out.2.2.2]; exact HNB.out.2.1, by have h1 := HCB2.out.2.2.1; have h2 := HNB.out.2.2.1; omega, HLN2.out, HCB2.out.2.1, HNX.out⟩⟩
                        case measure => simp [slLen]; omega
                  · have hxo2 : ¬ (0 : Int) < xo := hxo
                    have hkn : 0 < n := by omega
                    have hKn : (0 : Int) < (n : Int) := by omega
                    have hKc : (0 : Int) ≤ (cw : Int) := by omega
                    have hKc1 : (1 : Int) ≤ (cw : Int) := by omega
                    have hKn1 : (1 : Int) ≤ (n : Int) := by omega
                    have hKw : IntKind.i64.wrap (1 : Int) = 1 := wr64' (by omega) (by omega)
                    by_cases hcK : cw = 1
                    · have HCK := hide hcK
                      have hcK1 : (cw = 1) = True := eq_true hcK
                      clear hcK
                      have ct : wr.cell? ⟨g10, 0, none⟩ = some (.int .i64 (ids.getD 0 0)) := rowI_cells HR10.out 0 hkn hn10
                      have HTB : Hid (i64B (ids.getD 0 0)) := hide (by
                        rw [HI.out.2.1.num, List.getD_eq_getElem?_getD, List.getElem?_map]
                        have hkl : 0 < ms.opn.length := by rw [← HI.out.2.1.len, hn10]; exact hkn
                        rw [List.getElem?_eq_getElem hkl]
                        have h1 := HI.out.1.mn.nums.1 _ (List.getElem_mem hkl)
                        have h2 := HI.out.2.2.2.1
                        show i64B (((ms.opn[0]'hkl).1 : Nat) : Int)
                        unfold i64B
                        omega)
                      have HCM := hide (mn_commit X wr g ms HI.out.1.mn (ids.getD 0 0) HTB.out (by have := HI.out.2.2.2.2.1; omega))
                      have HCB := hide (HI.out.2.1.commit HI.out.2.2.2.2.2.2.1 (by have := HI.out.2.2.2.2.1; omega) HI.out.1.mn.nums.2 HI.out.1.mn.srt HI.out.1.mn.few (k := 0) (by rw [hn10]; exact hkn))
                      have HNW := hide (fun h => HI.out.2.2.2.2.2.2.2.commit HI.out.2.2.2.2.2.2.1 HI.out.1.mn.srt (t := ids.getD 0 0) h)
                      have HSP := hide HI.out.2.2.2.2.2.2.2.1
                      have HBS := hide HI.out.1
                      have HNB : Hid (ids.length + i ≤ 16 ∧ ms.last ≤ 16 ∧ ms.now ≤ 1 + i ∧ now.length ≤ 4096 + 256 * i) := hide ⟨HI.out.2.2.1, HI.out.2.2.2.1, HI.out.2.2.2.2.1, HI.out.2.2.2.2.2.1⟩
                      clear HI HTB
                      generalize ids.getD 0 0 = T at *
                      generalize mCommit ms T = R at *
                      obtain ⟨R0, R1, R2, R3⟩ := R
                      dsimp only at HCM HCB HNW
                      go_wp2_with fail
                      refine HCM.out.mono ?_
                      rintro e V1 ⟨vd, rfl, hrow, hM, hF⟩
                      have HS1 := hide (HBS.out.step (hM.mono (fun i hi => .inl hi)) hF)
                      have HRD := hide hrow
                      obtain ⟨ad, cd, rfl⟩ := own_form hrow
                      clear hM hF hrow HCM HBS ct
                      have HBF : Hid (Below w.heap.size w V1) := hide (HB1.out.trans (HS1.out.lo.mono HWB.out))
                      rcases HCB.out.2.1 with hR3 | hR3
                      case inr =>
                        subst hR3
                        go_wp2
                        go_ret
                        exact ⟨rfl, HBF.out⟩
                      case inl =>
                        subst hR3
                        have HNX := hide (HNW.out rfl)
                        have HR9 := hide HS1.out.r9
                        have HIP : Hid (IsP V1 a9 now.length cn now) := hide (by
                          obtain ⟨a', c', e, h, _⟩ := own_isP rfl HR9.out
                          cases e
                          exact h)
                        have HIW : Hid (IsW V1 ad R1.length cd R1) := hide (own_isW rfl HRD.out)
                        have HAL := hide (all_any a9 now.length cn now ad R1.length cd R1 V1 HIP.out (fun h => own_none HR9.out h) HIW.out (by have h1 := HNB.out; have h2 := HCB.out.2.2.2.2.2.1; omega))
                        rw [docA_is R1 HSP.out] at HAL
                        have HLN2 : Hid ((allP now R1).length ≤ 4096 + 256 * (i + 1)) := hide (by have h1 := HNB.out; have h2 := HCB.out.2.2.2.2.2.1; have h3 := allP_len R1 now; omega)
                        have HCB2 : Hid (Bl R0 (ids.eraseIdx 0) ∧ Gd R0 ∧ R0.now ≤ ms.now + 1 ∧ R0.last = ms.last) := hide ⟨HCB.out.1, HCB.out.2.2.1, HCB.out.2.2.2.1, HCB.out.2.2.2.2.1⟩
                        clear HIP HIW HR9 HRD HNW HSP HCB
                        generalize allP now R1 = now2 at *
                        go_wp2_with fail
                        refine HAL.out.mono ?_
                        rintro e V2 ⟨v2, rfl, hr2, hb2⟩
                        obtain ⟨X2, hS2⟩ := HS1.out.put9 hb2 hr2
                        have HS2 := hide hS2
                        clear hr2 hb2 hS2 HAL HS1
                        have HR10 : Hid (V2.ownsRow B 3 1 (.slice (some ⟨g10, 0, none⟩) n cw) n (ids.flatMap ivc)) := hide (by have h := HS2.out.r10; unfold RowI at h; rw [hn10] at h; exact h)
                        have hg10 : g10 < V2.heap.size := (HR10.out.lt g10 rfl).2
                        have HBe : Hid (Below V2.heap.size V2 (V2.drew.alloc (.cells #[] 3))) := hide ((Below.refl _ V2).drew.alloc (Nat.le_refl _) _)
                        have HOe : Hid ((V2.drew.alloc (.cells #[] 3)).ownsRow V2.heap.size 3 1 (.slice (some ⟨V2.heap.size, 0, none⟩) 0 0) 0 (([] : List Int).flatMap ivc)) := hide (World.ownsRow_made V2.drew #[] 0 (Nat.le_refl _) (by decide) rfl)
                        have HRUN1 := hide (run_nums (cap := cw) (l := ids.take 0) (len := 0) ⟨g10, 0, none⟩ HOe.out (by rw [List.length_take, hn10]; omega) (fun j hj => by
                          rw [oadd0, Nat.zero_add, World.cell?_of_block (HBe.out.block g10 hg10), rowI_cells HR10.out j (by omega) hn10]
                          first | omega | simp [List.getD_eq_getElem?_getD, List.getElem?_take, hj]) (by omega) HBe.out.size)
                        have HRUN2 : Hid (∀ (v3 : Value) (w3 : World), w3.ownsRow V2.heap.size 3 1 v3 (0 + 0) (([] ++ ids.take 0).flatMap ivc) → (V2.drew.alloc (.cells #[] 3)).grownBy w3 (Value.slice (some ⟨V2.heap.size, 0, none⟩) 0 0).ownBlock → ∃ v4 w4, (Builtin.append_ #[54, 54] 54 #[v3, .slice (some ⟨g10, 0, none⟩) (n - (1)) (cw - (1))]).run Tryz.prog w3 = .ok v4 w4 ∧ w4.ownsRow V2.heap.size 3 1 v4 (n - 1) ((ids.eraseIdx 0).flatMap ivc) ∧ Below V2.heap.size V2 w4) := hide (fun v3 w3 ho3 hg3 => by
                          have hb3 : Below V2.heap.size V2 w3 := HBe.out.trans ((Below.refl _ _).grown hg3 HBe.out.size (fun k hk => Nat.le_of_eq (by simpa [Value.ownBlock] using hk)))
                          obtain ⟨v4, w4, hr4, ho4, hg4⟩ := run_nums (cap := cw - (1)) (l := ids.drop (1)) (len := n - (1)) ⟨g10, 0, none⟩ ho3 (by rw [List.length_drop, hn10]) (fun j hj => by
                            have := HCK.out
                            omega) (by omega) hb3.size
                          refine ⟨v4, w4, hr4, ?_, hb3.trans ((Below.refl _ _).grown hg4 hb3.size (fun k hk => (ho3.lt k hk).1))⟩
                          rw [erase_split]
                          have e : 0 + 0 + (n - (1)) = n - 1 := by omega
                          rw [e] at ho4
                          simpa using ho4)
                        go_wp2_with fail
                        refine wp_region_last 10 (fun W' : World => True) (by kernel_rfl) trivial (fun hHeld => ?_)
                        refine wpAnyL_take (i := 1) (v := ?v1r9) rfl (by kernel_rfl) (fun _ _ _ h => h) (by assumption) (by rfl) ?hy1r9 ?hn1r9
                        case hy1r9 => (intro w hSw; (try dsimp only at hSw); skip; go_simp; try with_reducible rfl)
                        try simp only [Act.put]
                        refine wpAnyL_take (i := 2) (v := ?v2r9) rfl (by kernel_rfl) (fun _ _ _ h => h) (by assumption) (by rfl) ?hy2r9 ?hn2r9
                        case hy2r9 => (intro w hSw; (try dsimp only at hSw); skip; go_simp; try with_reducible rfl)
                        try simp only [Act.put]
                        refine wpAnyL_take (i := 3) (v := ?v3r9) rfl (by kernel_rfl) (fun _ _ _ h => h) (by assumption) (by rfl) ?hy3r9 ?hn3r9
                        case hy3r9 => (intro w hSw; (try dsimp only at hSw); skip; go_simp; try with_reducible rfl)
                        try simp only [Act.put]
                        refine wpAnyL_take (i := 5) (v := ?v5r9) rfl (by kernel_rfl) (fun _ _ _ h => h) (by assumption) (by rfl) ?hy5r9 ?hn5r9
                        case hy5r9 => (intro w hSw; (try dsimp only at hSw); skip; go_simp; try with_reducible rfl)
                        try simp only [Act.put]
                        refine wpAnyL_take (i := 6) (v := ?v6r9) rfl (by kernel_rfl) (fun _ _ _ h => h) (by assumption) (by rfl) ?hy6r9 ?hn6r9
                        case hy6r9 => (intro w hSw; (try dsimp only at hSw); skip; go_simp; try with_reducible rfl)
                        try simp only [Act.put]
                        refine wpAnyL_take (i := 7) (v := ?v7r9) rfl (by kernel_rfl) (fun _ _ _ h => h) (by assumption) (by rfl) ?hy7r9 ?hn7r9
                        case hy7r9 => (intro w hSw; (try dsimp only at hSw); skip; go_simp; try with_reducible rfl)
                        try simp only [Act.put]
                        refine wpAnyL_take (i := 8) (v := ?v8r9) rfl (by kernel_rfl) (fun _ _ _ h => h) (by assumption) (by rfl) ?hy8r9 ?hn8r9
                        case hy8r9 => (intro w hSw; (try dsimp only at hSw); skip; go_simp; try with_reducible rfl)
                        try simp only [Act.put]
                        refine wpAnyL_one (i := 0) rfl (by kernel_rfl) (fun K hK => ?_)
                        go_simp
                        refine hK.out _ _ trivial (fun hHeld => ?_)
                        clear hK K
                        try simp only [Act.put]
                        refine wpAnyL_one (i := 4) rfl (by kernel_rfl) (fun K hK => ?_)
                        obtain ⟨v3, w3, hr3, ho3, hg3⟩ := HRUN1.out
                        have HO3 := hide ho3
                        have HG3 := hide hg3
                        obtain ⟨a3, c3, rfl⟩ := own_form HO3.out
                        refine wp_append_eq _ _ 54 rfl rfl rfl hr3 ?_
                        refine hK.out _ _ trivial (fun hHeld => ?_)
                        clear hK K ho3 hg3 hr3
                        try simp only [Act.put]
                        refine wpAnyL_one (i := 9) rfl (by kernel_rfl) (fun K hK => ?_)
                        obtain ⟨v4, w4, hr4, ho4, hb4⟩ := HRUN2.out _ _ HO3.out HG3.out
                        have HO4 := hide ho4
                        have HB4 := hide hb4
                        obtain ⟨a4, c4, rfl⟩ := own_form HO4.out
                        refine wp_append_eq _ _ 54 rfl rfl rfl hr4 ?_
                        refine hK.out _ _ trivial (fun hHeld => ?_)
                        clear hK K ho4 hb4 hr4
                        try simp only [Act.put]
                        refine wpAnyL_last rfl (by kernel_rfl) (by kernel_rfl) (fun K hK => ?_)
                        go_simp
                        refine hK.out _ _ ?_
                        clear hK K hHeld
                        obtain ⟨X3, hS3⟩ := HS2.out.put10 HB4.out (v' := .slice a4 (n - 1) c4) (ids' := ids.eraseIdx 0) (by
                          unfold RowI
                          rw [List.length_eraseIdx, hn10, if_pos hkn]
                          exact HO4.out)
                        have HS4 := hide hS3
                        have HLE2 : Hid ((ids.eraseIdx 0).length = n - 1) := hide (by rw [List.length_eraseIdx, hn10, if_pos hkn])
                        clear hS3 HB4 HO4 HO3 HG3 HRUN1 HRUN2 HOe HBe HR10 HS2
                        go_wp2
                        go_roundw
                        case rel => exact ⟨i + 1, R0, X3, now2, ids.eraseIdx 0, by have := HNB.out.1; omega, by simp, hide ⟨HS4.out, HCB2.out.1, by rw [HLE2.out]; have := HNB.out.1; omega, by rw [HCB2.out.2.2.2]; exact HNB.out.2.1, by have h1 := HCB2.out.2.2.1; have h2 := HNB.out.2.2.1; omega, HLN2.out, HCB2.out.2.1, HNX.out⟩⟩
                        case measure => simp [slLen]; omega
                    · have hcK2 : ¬ (cw : Int) = (1 : Int) := by omega
                      have ct : wr.cell? ⟨g10, 0, none⟩ = some (.int .i64 (ids.getD 0 0)) := rowI_cells HR10.out 0 hkn hn10
                      have HTB : Hid (i64B (ids.getD 0 0)) := hide (by
                        rw [HI.out.2.1.num, List.getD_eq_getElem?_getD, List.getElem?_map]
                        have hkl : 0 < ms.opn.length := by rw [← HI.out.2.1.len, hn10]; exact hkn
                        rw [List.getElem?_eq_getElem hkl]
                        have h1 := HI.out.1.mn.nums.1 _ (List.getElem_mem hkl)
                        have h2 := HI.out.2.2.2.1
                        show i64B (((ms.opn[0]'hkl).1 : Nat) : Int)
                        unfold i64B
                        omega)
                      have HCM := hide (mn_commit X wr g ms HI.out.1.mn (ids.getD 0 0) HTB.out (by have := HI.out.2.2.2.2.1; omega))
                      have HCB := hide (HI.out.2.1.commit HI.out.2.2.2.2.2.2.1 (by have := HI.out.2.2.2.2.1; omega) HI.out.1.mn.nums.2 HI.out.1.mn.srt HI.out.1.mn.few (k := 0) (by rw [hn10]; exact hkn))
                      have HNW := hide (fun h => HI.out.2.2.2.2.2.2.2.commit HI.out.2.2.2.2.2.2.1 HI.out.1.mn.srt (t := ids.getD 0 0) h)
                      have HSP := hide HI.out.2.2.2.2.2.2.2.1
                      have HBS := hide HI.out.1
                      have HNB : Hid (ids.length + i ≤ 16 ∧ ms.last ≤ 16 ∧ ms.now ≤ 1 + i ∧ now.length ≤ 4096 + 256 * i) := hide ⟨HI.out.2.2.1, HI.out.2.2.2.1, HI.out.2.2.2.2.1, HI.out.2.2.2.2.2.1⟩
                      clear HI HTB
                      generalize ids.getD 0 0 = T at *
                      generalize mCommit ms T = R at *
                      obtain ⟨R0, R1, R2, R3⟩ := R
                      dsimp only at HCM HCB HNW
                      go_wp2_with fail
                      refine HCM.out.mono ?_
                      rintro e V1 ⟨vd, rfl, hrow, hM, hF⟩
                      have HS1 := hide (HBS.out.step (hM.mono (fun i hi => .inl hi)) hF)
                      have HRD := hide hrow
                      obtain ⟨ad, cd, rfl⟩ := own_form hrow
                      clear hM hF hrow HCM HBS ct
                      have HBF : Hid (Below w.heap.size w V1) := hide (HB1.out.trans (HS1.out.lo.mono HWB.out))
                      rcases HCB.out.2.1 with hR3 | hR3
                      case inr =>
                        subst hR3
                        go_wp2
                        go_ret
                        exact ⟨rfl, HBF.out⟩
                      case inl =>
                        subst hR3
                        have HNX := hide (HNW.out rfl)
                        have HR9 := hide HS1.out.r9
                        have HIP : Hid (IsP V1 a9 now.length cn now) := hide (by
                          obtain ⟨a', c', e, h, _⟩ := own_isP rfl HR9.out
                          cases e
                          exact h)
                        have HIW : Hid (IsW V1 ad R1.length cd R1) := hide (own_isW rfl HRD.out)
                        have HAL := hide (all_any a9 now.length cn now ad R1.length cd R1 V1 HIP.out (fun h => own_none HR9.out h) HIW.out (by have h1 := HNB.out; have h2 := HCB.out.2.2.2.2.2.1; omega))
                        rw [docA_is R1 HSP.out] at HAL
                        have HLN2 : Hid ((allP now R1).length ≤ 4096 + 256 * (i + 1)) := hide (by have h1 := HNB.out; have h2 := HCB.out.2.2.2.2.2.1; have h3 := allP_len R1 now; omega)
                        have HCB2 : Hid (Bl R0 (ids.eraseIdx 0) ∧ Gd R0 ∧ R0.now ≤ ms.now + 1 ∧ R0.last = ms.last) := hide ⟨HCB.out.1, HCB.out.2.2.1, HCB.out.2.2.2.1, HCB.out.2.2.2.2.1⟩
                        clear HIP HIW HR9 HRD HNW HSP HCB
                        generalize allP now R1 = now2 at *
                        go_wp2_with fail
                        refine HAL.out.mono ?_
                        rintro e V2 ⟨v2, rfl, hr2, hb2⟩
                        obtain ⟨X2, hS2⟩ := HS1.out.put9 hb2 hr2
                        have HS2 := hide hS2
                        clear hr2 hb2 hS2 HAL HS1
                        have HR10 : Hid (V2.ownsRow B 3 1 (.slice (some ⟨g10, 0, none⟩) n cw) n (ids.flatMap ivc)) := hide (by have h := HS2.out.r10; unfold RowI at h; rw [hn10] at h; exact h)
                        have hg10 : g10 < V2.heap.size := (HR10.out.lt g10 rfl).2
                        have HBe : Hid (Below V2.heap.size V2 (V2.drew.alloc (.cells #[] 3))) := hide ((Below.refl _ V2).drew.alloc (Nat.le_refl _) _)
                        have HOe : Hid ((V2.drew.alloc (.cells #[] 3)).ownsRow V2.heap.size 3 1 (.slice (some ⟨V2.heap.size, 0, none⟩) 0 0) 0 (([] : List Int).flatMap ivc)) := hide (World.ownsRow_made V2.drew #[] 0 (Nat.le_refl _) (by decide) rfl)
                        have HRUN1 := hide (run_nums (cap := cw) (l := ids.take 0) (len := 0) ⟨g10, 0, none⟩ HOe.out (by rw [List.length_take, hn10]; omega) (fun j hj => by
                          rw [oadd0, Nat.zero_add, World.cell?_of_block (HBe.out.block g10 hg10), rowI_cells HR10.out j (by omega) hn10]
                          first | omega | simp [List.getD_eq_getElem?_getD, List.getElem?_take, hj]) (by omega) HBe.out.size)
                        have HRUN2 : Hid (∀ (v3 : Value) (w3 : World), w3.ownsRow V2.heap.size 3 1 v3 (0 + 0) (([] ++ ids.take 0).flatMap ivc) → (V2.drew.alloc (.cells #[] 3)).grownBy w3 (Value.slice (some ⟨V2.heap.size, 0, none⟩) 0 0).ownBlock → ∃ v4 w4, (Builtin.append_ #[54, 54] 54 #[v3, .slice (some ⟨g10, 1, none⟩) (n - (1)) (cw - (1))]).run Tryz.prog w3 = .ok v4 w4 ∧ w4.ownsRow V2.heap.size 3 1 v4 (n - 1) ((ids.eraseIdx 0).flatMap ivc) ∧ Below V2.heap.size V2 w4) := hide (fun v3 w3 ho3 hg3 => by
                          have hb3 : Below V2.heap.size V2 w3 := HBe.out.trans ((Below.refl _ _).grown hg3 HBe.out.size (fun k hk => Nat.le_of_eq (by simpa [Value.ownBlock] using hk)))
                          obtain ⟨v4, w4, hr4, ho4, hg4⟩ := run_nums (cap := cw - (1)) (l := ids.drop (1)) (len := n - (1)) ⟨g10, 1, none⟩ ho3 (by rw [List.length_drop, hn10]) (fun j hj => by
                            rw [oadd0]
                            rw [World.cell?_of_block (hb3.block g10 hg10), rowI_cells HR10.out (1 + j) (by omega) hn10]
                            first | (simp [List.getD_eq_getElem?_getD, List.getElem?_drop]; done) | (simp [List.getD_eq_getElem?_getD, List.getElem?_drop, Nat.add_comm]; done)) (by omega) hb3.size
                          refine ⟨v4, w4, hr4, ?_, hb3.trans ((Below.refl _ _).grown hg4 hb3.size (fun k hk => (ho3.lt k hk).1))⟩
                          rw [erase_split]
                          have e : 0 + 0 + (n - (1)) = n - 1 := by omega
                          rw [e] at ho4
                          simpa using ho4)
                        go_wp2_with fail
                        refine wp_region_last 10 (fun W' : World => True) (by kernel_rfl) trivial (fun hHeld => ?_)
                        refine wpAnyL_take (i := 1) (v := ?v1r10) rfl (by kernel_rfl) (fun _ _ _ h => h) (by assumption) (by rfl) ?hy1r10 ?hn1r10
                        case hy1r10 => (intro w hSw; (try dsimp only at hSw); skip; go_simp; try with_reducible rfl)
                        try simp only [Act.put]
                        refine wpAnyL_take (i := 2) (v := ?v2r10) rfl (by kernel_rfl) (fun _ _ _ h => h) (by assumption) (by rfl) ?hy2r10 ?hn2r10
                        case hy2r10 => (intro w hSw; (try dsimp only at hSw); skip; go_simp; try with_reducible rfl)
                        try simp only [Act.put]
                        refine wpAnyL_take (i := 3) (v := ?v3r10) rfl (by kernel_rfl) (fun _ _ _ h => h) (by assumption) (by rfl) ?hy3r10 ?hn3r10
                        case hy3r10 => (intro w hSw; (try dsimp only at hSw); skip; go_simp; try with_reducible rfl)
                        try simp only [Act.put]
                        refine wpAnyL_take (i := 5) (v := ?v5r10) rfl (by kernel_rfl) (fun _ _ _ h => h) (by assumption) (by rfl) ?hy5r10 ?hn5r10
                        case hy5r10 => (intro w hSw; (try dsimp only at hSw); skip; go_simp; try with_reducible rfl)
                        try simp only [Act.put]
                        refine wpAnyL_take (i := 6) (v := ?v6r10) rfl (by kernel_rfl) (fun _ _ _ h => h) (by assumption) (by rfl) ?hy6r10 ?hn6r10
                        case hy6r10 => (intro w hSw; (try dsimp only at hSw); skip; go_simp; try with_reducible rfl)
                        try simp only [Act.put]
                        refine wpAnyL_take (i := 7) (v := ?v7r10) rfl (by kernel_rfl) (fun _ _ _ h => h) (by assumption) (by rfl) ?hy7r10 ?hn7r10
                        case hy7r10 => (intro w hSw; (try dsimp only at hSw); skip; go_simp; try with_reducible rfl)
                        try simp only [Act.put]
                        refine wpAnyL_take (i := 8) (v := ?v8r10) rfl (by kernel_rfl) (fun _ _ _ h => h) (by assumption) (by rfl) ?hy8r10 ?hn8r10
                        case hy8r10 => (intro w hSw; (try dsimp only at hSw); skip; go_simp; try with_reducible rfl)
                        try simp only [Act.put]
                        refine wpAnyL_one (i := 0) rfl (by kernel_rfl) (fun K hK => ?_)
                        go_simp
                        refine hK.out _ _ trivial (fun hHeld => ?_)
                        clear hK K
                        try simp only [Act.put]
                        refine wpAnyL_one (i := 4) rfl (by kernel_rfl) (fun K hK => ?_)
                        obtain ⟨v3, w3, hr3, ho3, hg3⟩ := HRUN1.out
                        have HO3 := hide ho3
                        have HG3 := hide hg3
                        obtain ⟨a3, c3, rfl⟩ := own_form HO3.out
                        refine wp_append_eq _ _ 54 rfl rfl rfl hr3 ?_
                        refine hK.out _ _ trivial (fun hHeld => ?_)
                        clear hK K ho3 hg3 hr3
                        try simp only [Act.put]
                        refine wpAnyL_one (i := 9) rfl (by kernel_rfl) (fun K hK => ?_)
                        obtain ⟨v4, w4, hr4, ho4, hb4⟩ := HRUN2.out _ _ HO3.out HG3.out
                        have HO4 := hide ho4
                        have HB4 := hide hb4
                        obtain ⟨a4, c4, rfl⟩ := own_form HO4.out
                        refine wp_append_eq _ _ 54 rfl rfl rfl hr4 ?_
                        refine hK.out _ _ trivial (fun hHeld => ?_)
                        clear hK K ho4 hb4 hr4
                        try simp only [Act.put]
                        refine wpAnyL_last rfl (by kernel_rfl) (by kernel_rfl) (fun K hK => ?_)
                        go_simp
                        refine hK.out _ _ ?_
                        clear hK K hHeld
                        obtain ⟨X3, hS3⟩ := HS2.out.put10 HB4.out (v' := .slice a4 (n - 1) c4) (ids' := ids.eraseIdx 0) (by
                          unfold RowI
                          rw [List.length_eraseIdx, hn10, if_pos hkn]
                          exact HO4.out)
                        have HS4 := hide hS3
                        have HLE2 : Hid ((ids.eraseIdx 0).length = n - 1) := hide (by rw [List.length_eraseIdx, hn10, if_pos hkn])
                        clear hS3 HB4 HO4 HO3 HG3 HRUN1 HRUN2 HOe HBe HR10 HS2
                        go_wp2
                        go_roundw
                        case rel => exact ⟨i + 1, R0, X3, now2, ids.eraseIdx 0, by have := HNB.out.1; omega, by simp, hide ⟨HS4.out, HCB2.out.1, by rw [HLE2.out]; have := HNB.out.1; omega, by rw [HCB2.out.2.2.2]; exact HNB.out.2.1, by have h1 := HCB2.out.2.2.1; have h2 := HNB.out.2.2.1; omega, HLN2.out, HCB2.out.2.1, HNX.out⟩⟩
                        case measure => simp [slLen]; omega
                · have hiO : ¬ (i : Int) < (on : Int) := by omega
                  clear HOb
                  have hkn : 0 < n := by omega
                  have hKn : (0 : Int) < (n : Int) := by omega
                  have hKc : (0 : Int) ≤ (cw : Int) := by omega
                  have hKc1 : (1 : Int) ≤ (cw : Int) := by omega
                  have hKn1 : (1 : Int) ≤ (n : Int) := by omega
                  have hKw : IntKind.i64.wrap (1 : Int) = 1 := wr64' (by omega) (by omega)
                  by_cases hcK : cw = 1
                  · have HCK := hide hcK
                    have hcK1 : (cw = 1) = True := eq_true hcK
                    clear hcK
                    have ct : wr.cell? ⟨g10, 0, none⟩ = some (.int .i64 (ids.getD 0 0)) := rowI_cells HR10.out 0 hkn hn10
                    have HTB : Hid (i64B (ids.getD 0 0)) := hide (by
                      rw [HI.out.2.1.num, List.getD_eq_getElem?_getD, List.getElem?_map]
                      have hkl : 0 < ms.opn.length := by rw [← HI.out.2.1.len, hn10]; exact hkn
                      rw [List.getElem?_eq_getElem hkl]
                      have h1 := HI.out.1.mn.nums.1 _ (List.getElem_mem hkl)
                      have h2 := HI.out.2.2.2.1
                      show i64B (((ms.opn[0]'hkl).1 : Nat) : Int)
                      unfold i64B
                      omega)
                    have HCM := hide (mn_commit X wr g ms HI.out.1.mn (ids.getD 0 0) HTB.out (by have := HI.out.2.2.2.2.1; omega))
                    have HCB := hide (HI.out.2.1.commit HI.out.2.2.2.2.2.2.1 (by have := HI.out.2.2.2.2.1; omega) HI.out.1.mn.nums.2 HI.out.1.mn.srt HI.out.1.mn.few (k := 0) (by rw [hn10]; exact hkn))
                    have HNW := hide (fun h => HI.out.2.2.2.2.2.2.2.commit HI.out.2.2.2.2.2.2.1 HI.out.1.mn.srt (t := ids.getD 0 0) h)
                    have HSP := hide HI.out.2.2.2.2.2.2.2.1
                    have HBS := hide HI.out.1
                    have HNB : Hid (ids.length + i ≤ 16 ∧ ms.last ≤ 16 ∧ ms.now ≤ 1 + i ∧ now.length ≤ 4096 + 256 * i) := hide ⟨HI.out.2.2.1, HI.out.2.2.2.1, HI.out.2.2.2.2.1, HI.out.2.2.2.2.2.1⟩
                    clear HI HTB
                    generalize ids.getD 0 0 = T at *
                    generalize mCommit ms T = R at *
                    obtain ⟨R0, R1, R2, R3⟩ := R
                    dsimp only at HCM HCB HNW
                    go_wp2_with fail
                    refine HCM.out.mono ?_
                    rintro e V1 ⟨vd, rfl, hrow, hM, hF⟩
                    have HS1 := hide (HBS.out.step (hM.mono (fun i hi => .inl hi)) hF)
                    have HRD := hide hrow
                    obtain ⟨ad, cd, rfl⟩ := own_form hrow
                    clear hM hF hrow HCM HBS ct
                    have HBF : Hid (Below w.heap.size w V1) := hide (HB1.out.trans (HS1.out.lo.mono HWB.out))
                    rcases HCB.out.2.1 with hR3 | hR3
                    case inr =>
                      subst hR3
                      go_wp2
                      go_ret
                      exact ⟨rfl, HBF.out⟩
                    case inl =>
                      subst hR3
                      have HNX := hide (HNW.out rfl)
                      have HR9 := hide HS1.out.r9
                      have HIP : Hid (IsP V1 a9 now.length cn now) := hide (by
                        obtain ⟨a', c', e, h, _⟩ := own_isP rfl HR9.out
                        cases e
                        exact h)
                      have HIW : Hid (IsW V1 ad R1.length cd R1) := hide (own_isW rfl HRD.out)
                      have HAL := hide (all_any a9 now.length cn now ad R1.length cd R1 V1 HIP.out (fun h => own_none HR9.out h) HIW.out (by have h1 := HNB.out; have h2 := HCB.out.2.2.2.2.2.1; omega))
                      rw [docA_is R1 HSP.out] at HAL
                      have HLN2 : Hid ((allP now R1).length ≤ 4096 + 256 * (i + 1)) := hide (by have h1 := HNB.out; have h2 := HCB.out.2.2.2.2.2.1; have h3 := allP_len R1 now; omega)
                      have HCB2 : Hid (Bl R0 (ids.eraseIdx 0) ∧ Gd R0 ∧ R0.now ≤ ms.now + 1 ∧ R0.last = ms.last) := hide ⟨HCB.out.1, HCB.out.2.2.1, HCB.out.2.2.2.1, HCB.out.2.2.2.2.1⟩
                      clear HIP HIW HR9 HRD HNW HSP HCB
                      generalize allP now R1 = now2 at *
                      go_wp2_with fail
                      refine HAL.out.mono ?_
                      rintro e V2 ⟨v2, rfl, hr2, hb2⟩
                      obtain ⟨X2, hS2⟩ := HS1.out.put9 hb2 hr2
                      have HS2 := hide hS2
                      clear hr2 hb2 hS2 HAL HS1
                      have HR10 : Hid (V2.ownsRow B 3 1 (.slice (some ⟨g10, 0, none⟩) n cw) n (ids.flatMap ivc)) := hide (by have h := HS2.out.r10; unfold RowI at h; rw [hn10] at h; exact h)
                      have hg10 : g10 < V2.heap.size := (HR10.out.lt g10 rfl).2
                      have HBe : Hid (Below V2.heap.size V2 (V2.drew.alloc (.cells #[] 3))) := hide ((Below.refl _ V2).drew.alloc (Nat.le_refl _) _)
                      have HOe : Hid ((V2.drew.alloc (.cells #[] 3)).ownsRow V2.heap.size 3 1 (.slice (some ⟨V2.heap.size, 0, none⟩) 0 0) 0 (([] : List Int).flatMap ivc)) := hide (World.ownsRow_made V2.drew #[] 0 (Nat.le_refl _) (by decide) rfl)
                      have HRUN1 := hide (run_nums (cap := cw) (l := ids.take 0) (len := 0) ⟨g10, 0, none⟩ HOe.out (by rw [List.length_take, hn10]; omega) (fun j hj => by
                        rw [oadd0, Nat.zero_add, World.cell?_of_block (HBe.out.block g10 hg10), rowI_cells HR10.out j (by omega) hn10]
                        first | omega | simp [List.getD_eq_getElem?_getD, List.getElem?_take, hj]) (by omega) HBe.out.size)
                      have HRUN2 : Hid (∀ (v3 : Value) (w3 : World), w3.ownsRow V2.heap.size 3 1 v3 (0 + 0) (([] ++ ids.take 0).flatMap ivc) → (V2.drew.alloc (.cells #[] 3)).grownBy w3 (Value.slice (some ⟨V2.heap.size, 0, none⟩) 0 0).ownBlock → ∃ v4 w4, (Builtin.append_ #[54, 54] 54 #[v3, .slice (some ⟨g10, 0, none⟩) (n - (1)) (cw - (1))]).run Tryz.prog w3 = .ok v4 w4 ∧ w4.ownsRow V2.heap.size 3 1 v4 (n - 1) ((ids.eraseIdx 0).flatMap ivc) ∧ Below V2.heap.size V2 w4) := hide (fun v3 w3 ho3 hg3 => by
                        have hb3 : Below V2.heap.size V2 w3 := HBe.out.trans ((Below.refl _ _).grown hg3 HBe.out.size (fun k hk => Nat.le_of_eq (by simpa [Value.ownBlock] using hk)))
                        obtain ⟨v4, w4, hr4, ho4, hg4⟩ := run_nums (cap := cw - (1)) (l := ids.drop (1)) (len := n - (1)) ⟨g10, 0, none⟩ ho3 (by rw [List.length_drop, hn10]) (fun j hj => by
                          have := HCK.out
                          omega) (by omega) hb3.size
                        refine ⟨v4, w4, hr4, ?_, hb3.trans ((Below.refl _ _).grown hg4 hb3.size (fun k hk => (ho3.lt k hk).1))⟩
                        rw [erase_split]
                        have e : 0 + 0 + (n - (1)) = n - 1 := by omega
                        rw [e] at ho4
                        simpa using ho4)
                      go_wp2_with fail
                      refine wp_region_last 10 (fun W' : World => True) (by kernel_rfl) trivial (fun hHeld => ?_)
                      refine wpAnyL_take (i := 1) (v := ?v1r11) rfl (by kernel_rfl) (fun _ _ _ h => h) (by assumption) (by rfl) ?hy1r11 ?hn1r11
                      case hy1r11 => (intro w hSw; (try dsimp only at hSw); skip; go_simp; try with_reducible rfl)
                      try simp only [Act.put]
                      refine wpAnyL_take (i := 2) (v := ?v2r11) rfl (by kernel_rfl) (fun _ _ _ h => h) (by assumption) (by rfl) ?hy2r11 ?hn2r11
                      case hy2r11 => (intro w hSw; (try dsimp only at hSw); skip; go_simp; try with_reducible rfl)
                      try simp only [Act.put]
                      refine wpAnyL_take (i := 3) (v := ?v3r11) rfl (by kernel_rfl) (fun _ _ _ h => h) (by assumption) (by rfl) ?hy3r11 ?hn3r11
                      case hy3r11 => (intro w hSw; (try dsimp only at hSw); skip; go_simp; try with_reducible rfl)
                      try simp only [Act.put]
                      refine wpAnyL_take (i := 5) (v := ?v5r11) rfl (by kernel_rfl) (fun _ _ _ h => h) (by assumption) (by rfl) ?hy5r11 ?hn5r11
                      case hy5r11 => (intro w hSw; (try dsimp only at hSw); skip; go_simp; try with_reducible rfl)
                      try simp only [Act.put]
                      refine wpAnyL_take (i := 6) (v := ?v6r11) rfl (by kernel_rfl) (fun _ _ _ h => h) (by assumption) (by rfl) ?hy6r11 ?hn6r11
                      case hy6r11 => (intro w hSw; (try dsimp only at hSw); skip; go_simp; try with_reducible rfl)
                      try simp only [Act.put]
                      refine wpAnyL_take (i := 7) (v := ?v7r11) rfl (by kernel_rfl) (fun _ _ _ h => h) (by assumption) (by rfl) ?hy7r11 ?hn7r11
                      case hy7r11 => (intro w hSw; (try dsimp only at hSw); skip; go_simp; try with_reducible rfl)
                      try simp only [Act.put]
                      refine wpAnyL_take (i := 8) (v := ?v8r11) rfl (by kernel_rfl) (fun _ _ _ h => h) (by assumption) (by rfl) ?hy8r11 ?hn8r11
                      case hy8r11 => (intro w hSw; (try dsimp only at hSw); skip; go_simp; try with_reducible rfl)
                      try simp only [Act.put]
                      refine wpAnyL_one (i := 0) rfl (by kernel_rfl) (fun K hK => ?_)
                      go_simp
                      refine hK.out _ _ trivial (fun hHeld => ?_)
                      clear hK K
                      try simp only [Act.put]
                      refine wpAnyL_one (i := 4) rfl (by kernel_rfl) (fun K hK => ?_)
                      obtain ⟨v3, w3, hr3, ho3, hg3⟩ := HRUN1.out
                      have HO3 := hide ho3
                      have HG3 := hide hg3
                      obtain ⟨a3, c3, rfl⟩ := own_form HO3.out
                      refine wp_append_eq _ _ 54 rfl rfl rfl hr3 ?_
                      refine hK.out _ _ trivial (fun hHeld => ?_)
                      clear hK K ho3 hg3 hr3
                      try simp only [Act.put]
                      refine wpAnyL_one (i := 9) rfl (by kernel_rfl) (fun K hK => ?_)
                      obtain ⟨v4, w4, hr4, ho4, hb4⟩ := HRUN2.out _ _ HO3.out HG3.out
                      have HO4 := hide ho4
                      have HB4 := hide hb4
                      obtain ⟨a4, c4, rfl⟩ := own_form HO4.out
                      refine wp_append_eq _ _ 54 rfl rfl rfl hr4 ?_
                      refine hK.out _ _ trivial (fun hHeld => ?_)
                      clear hK K ho4 hb4 hr4
                      try simp only [Act.put]
                      refine wpAnyL_last rfl (by kernel_rfl) (by kernel_rfl) (fun K hK => ?_)
                      go_simp
                      refine hK.out _ _ ?_
                      clear hK K hHeld
                      obtain ⟨X3, hS3⟩ := HS2.out.put10 HB4.out (v' := .slice a4 (n - 1) c4) (ids' := ids.eraseIdx 0) (by
                        unfold RowI
                        rw [List.length_eraseIdx, hn10, if_pos hkn]
                        exact HO4.out)
                      have HS4 := hide hS3
                      have HLE2 : Hid ((ids.eraseIdx 0).length = n - 1) := hide (by rw [List.length_eraseIdx, hn10, if_pos hkn])
                      clear hS3 HB4 HO4 HO3 HG3 HRUN1 HRUN2 HOe HBe HR10 HS2
                      go_wp2
                      go_roundw
                      case rel => exact ⟨i + 1, R0, X3, now2, ids.eraseIdx 0, by have := HNB.out.1; omega, by simp, hide ⟨HS4.out, HCB2.out.1, by rw [HLE2.out]; have := HNB.out.1; omega, by rw [HCB2.out.2.2.2]; exact HNB.out.2.1, by have h1 := HCB2.out.2.2.1; have h2 := HNB.out.2.2.1; omega, HLN2.out, HCB2.out.2.1, HNX.out⟩⟩
                      case measure => simp [slLen]; omega
                  · have hcK2 : ¬ (cw : Int) = (1 : Int) := by omega
                    have ct : wr.cell? ⟨g10, 0, none⟩ = some (.int .i64 (ids.getD 0 0)) := rowI_cells HR10.out 0 hkn hn10
                    have HTB : Hid (i64B (ids.getD 0 0)) := hide (by
                      rw [HI.out.2.1.num, List.getD_eq_getElem?_getD, List.getElem?_map]
                      have hkl : 0 < ms.opn.length := by rw [← HI.out.2.1.len, hn10]; exact hkn
                      rw [List.getElem?_eq_getElem hkl]
                      have h1 := HI.out.1.mn.nums.1 _ (List.getElem_mem hkl)
                      have h2 := HI.out.2.2.2.1
                      show i64B (((ms.opn[0]'hkl).1 : Nat) : Int)
                      unfold i64B
                      omega)
                    have HCM := hide (mn_commit X wr g ms HI.out.1.mn (ids.getD 0 0) HTB.out (by have := HI.out.2.2.2.2.1; omega))
                    have HCB := hide (HI.out.2.1.commit HI.out.2.2.2.2.2.2.1 (by have := HI.out.2.2.2.2.1; omega) HI.out.1.mn.nums.2 HI.out.1.mn.srt HI.out.1.mn.few (k := 0) (by rw [hn10]; exact hkn))
                    have HNW := hide (fun h => HI.out.2.2.2.2.2.2.2.commit HI.out.2.2.2.2.2.2.1 HI.out.1.mn.srt (t := ids.getD 0 0) h)
                    have HSP := hide HI.out.2.2.2.2.2.2.2.1
                    have HBS := hide HI.out.1
                    have HNB : Hid (ids.length + i ≤ 16 ∧ ms.last ≤ 16 ∧ ms.now ≤ 1 + i ∧ now.length ≤ 4096 + 256 * i) := hide ⟨HI.out.2.2.1, HI.out.2.2.2.1, HI.out.2.2.2.2.1, HI.out.2.2.2.2.2.1⟩
                    clear HI HTB
                    generalize ids.getD 0 0 = T at *
                    generalize mCommit ms T = R at *
                    obtain ⟨R0, R1, R2, R3⟩ := R
                    dsimp only at HCM HCB HNW
                    go_wp2_with fail
                    refine HCM.out.mono ?_
                    rintro e V1 ⟨vd, rfl, hrow, hM, hF⟩
                    have HS1 := hide (HBS.out.step (hM.mono (fun i hi => .inl hi)) hF)
                    have HRD := hide hrow
                    obtain ⟨ad, cd, rfl⟩ := own_form hrow
                    clear hM hF hrow HCM HBS ct
                    have HBF : Hid (Below w.heap.size w V1) := hide (HB1.out.trans (HS1.out.lo.mono HWB.out))
                    rcases HCB.out.2.1 with hR3 | hR3
                    case inr =>
                      subst hR3
                      go_wp2
                      go_ret
                      exact ⟨rfl, HBF.out⟩
                    case inl =>
                      subst hR3
                      have HNX := hide (HNW.out rfl)
                      have HR9 := hide HS1.out.r9
                      have HIP : Hid (IsP V1 a9 now.length cn now) := hide (by
                        obtain ⟨a', c', e, h, _⟩ := own_isP rfl HR9.out
                        cases e
                        exact h)
                      have HIW : Hid (IsW V1 ad R1.length cd R1) := hide (own_isW rfl HRD.out)
                      have HAL := hide (all_any a9 now.length cn now ad R1.length cd R1 V1 HIP.out (fun h => own_none HR9.out h) HIW.out (by have h1 := HNB.out; have h2 := HCB.out.2.2.2.2.2.1; omega))
                      rw [docA_is R1 HSP.out] at HAL
                      have HLN2 : Hid ((allP now R1).length ≤ 4096 + 256 * (i + 1)) := hide (by have h1 := HNB.out; have h2 := HCB.out.2.2.2.2.2.1; have h3 := allP_len R1 now; omega)
                      have HCB2 : Hid (Bl R0 (ids.eraseIdx 0) ∧ Gd R0 ∧ R0.now ≤ ms.now + 1 ∧ R0.last = ms.last) := hide ⟨HCB.out.1, HCB.out.2.2.1, HCB.out.2.2.2.1, HCB.out.2.2.2.2.1⟩
                      clear HIP HIW HR9 HRD HNW HSP HCB
                      generalize allP now R1 = now2 at *
                      go_wp2_with fail
                      refine HAL.out.mono ?_
                      rintro e V2 ⟨v2, rfl, hr2, hb2⟩
                      obtain ⟨X2, hS2⟩ := HS1.out.put9 hb2 hr2
                      have HS2 := hide hS2
                      clear hr2 hb2 hS2 HAL HS1
                      have HR10 : Hid (V2.ownsRow B 3 1 (.slice (some ⟨g10, 0, none⟩) n cw) n (ids.flatMap ivc)) := hide (by have h := HS2.out.r10; unfold RowI at h; rw [hn10] at h; exact h)
                      have hg10 : g10 < V2.heap.size := (HR10.out.lt g10 rfl).2
                      have HBe : Hid (Below V2.heap.size V2 (V2.drew.alloc (.cells #[] 3))) := hide ((Below.refl _ V2).drew.alloc (Nat.le_refl _) _)
                      have HOe : Hid ((V2.drew.alloc (.cells #[] 3)).ownsRow V2.heap.size 3 1 (.slice (some ⟨V2.heap.size, 0, none⟩) 0 0) 0 (([] : List Int).flatMap ivc)) := hide (World.ownsRow_made V2.drew #[] 0 (Nat.le_refl _) (by decide) rfl)
                      have HRUN1 := hide (run_nums (cap := cw) (l := ids.take 0) (len := 0) ⟨g10, 0, none⟩ HOe.out (by rw [List.length_take, hn10]; omega) (fun j hj => by
                        rw [oadd0, Nat.zero_add, World.cell?_of_block (HBe.out.block g10 hg10), rowI_cells HR10.out j (by omega) hn10]
                        first | omega | simp [List.getD_eq_getElem?_getD, List.getElem?_take, hj]) (by omega) HBe.out.size)
                      have HRUN2 : Hid (∀ (v3 : Value) (w3 : World), w3.ownsRow V2.heap.size 3 1 v3 (0 + 0) (([] ++ ids.take 0).flatMap ivc) → (V2.drew.alloc (.cells #[] 3)).grownBy w3 (Value.slice (some ⟨V2.heap.size, 0, none⟩) 0 0).ownBlock → ∃ v4 w4, (Builtin.append_ #[54, 54] 54 #[v3, .slice (some ⟨g10, 1, none⟩) (n - (1)) (cw - (1))]).run Tryz.prog w3 = .ok v4 w4 ∧ w4.ownsRow V2.heap.size 3 1 v4 (n - 1) ((ids.eraseIdx 0).flatMap ivc) ∧ Below V2.heap.size V2 w4) := hide (fun v3 w3 ho3 hg3 => by
                        have hb3 : Below V2.heap.size V2 w3 := HBe.out.trans ((Below.refl _ _).grown hg3 HBe.out.size (fun k hk => Nat.le_of_eq (by simpa [Value.ownBlock] using hk)))
                        obtain ⟨v4, w4, hr4, ho4, hg4⟩ := run_nums (cap := cw - (1)) (l := ids.drop (1)) (len := n - (1)) ⟨g10, 1, none⟩ ho3 (by rw [List.length_drop, hn10]) (fun j hj => by
                          rw [oadd0]
                          rw [World.cell?_of_block (hb3.block g10 hg10), rowI_cells HR10.out (1 + j) (by omega) hn10]
                          first | (simp [List.getD_eq_getElem?_getD, List.getElem?_drop]; done) | (simp [List.getD_eq_getElem?_getD, List.getElem?_drop, Nat.add_comm]; done)) (by omega) hb3.size
                        refine ⟨v4, w4, hr4, ?_, hb3.trans ((Below.refl _ _).grown hg4 hb3.size (fun k hk => (ho3.lt k hk).1))⟩
                        rw [erase_split]
                        have e : 0 + 0 + (n - (1)) = n - 1 := by omega
                        rw [e] at ho4
                        simpa using ho4)
                      go_wp2_with fail
                      refine wp_region_last 10 (fun W' : World => True) (by kernel_rfl) trivial (fun hHeld => ?_)
                      refine wpAnyL_take (i := 1) (v := ?v1r12) rfl (by kernel_rfl) (fun _ _ _ h => h) (by assumption) (by rfl) ?hy1r12 ?hn1r12
                      case hy1r12 => (intro w hSw; (try dsimp only at hSw); skip; go_simp; try with_reducible rfl)
                      try simp only [Act.put]
                      refine wpAnyL_take (i := 2) (v := ?v2r12) rfl (by kernel_rfl) (fun _ _ _ h => h) (by assumption) (by rfl) ?hy2r12 ?hn2r12
                      case hy2r12 => (intro w hSw; (try dsimp only at hSw); skip; go_simp; try with_reducible rfl)
                      try simp only [Act.put]
                      refine wpAnyL_take (i := 3) (v := ?v3r12) rfl (by kernel_rfl) (fun _ _ _ h => h) (by assumption) (by rfl) ?hy3r12 ?hn3r12
                      case hy3r12 => (intro w hSw; (try dsimp only at hSw); skip; go_simp; try with_reducible rfl)
                      try simp only [Act.put]
                      refine wpAnyL_take (i := 5) (v := ?v5r12) rfl (by kernel_rfl) (fun _ _ _ h => h) (by assumption) (by rfl) ?hy5r12 ?hn5r12
                      case hy5r12 => (intro w hSw; (try dsimp only at hSw); skip; go_simp; try with_reducible rfl)
                      try simp only [Act.put]
                      refine wpAnyL_take (i := 6) (v := ?v6r12) rfl (by kernel_rfl) (fun _ _ _ h => h) (by assumption) (by rfl) ?hy6r12 ?hn6r12
                      case hy6r12 => (intro w hSw; (try dsimp only at hSw); skip; go_simp; try with_reducible rfl)
                      try simp only [Act.put]
                      refine wpAnyL_take (i := 7) (v := ?v7r12) rfl (by kernel_rfl) (fun _ _ _ h => h) (by assumption) (by rfl) ?hy7r12 ?hn7r12
                      case hy7r12 => (intro w hSw; (try dsimp only at hSw); skip; go_simp; try with_reducible rfl)
                      try simp only [Act.put]
                      refine wpAnyL_take (i := 8) (v := ?v8r12) rfl (by kernel_rfl) (fun _ _ _ h => h) (by assumption) (by rfl) ?hy8r12 ?hn8r12
                      case hy8r12 => (intro w hSw; (try dsimp only at hSw); skip; go_simp; try with_reducible rfl)
                      try simp only [Act.put]
                      refine wpAnyL_one (i := 0) rfl (by kernel_rfl) (fun K hK => ?_)
                      go_simp
                      refine hK.out _ _ trivial (fun hHeld => ?_)
                      clear hK K
                      try simp only [Act.put]
                      refine wpAnyL_one (i := 4) rfl (by kernel_rfl) (fun K hK => ?_)
                      obtain ⟨v3, w3, hr3, ho3, hg3⟩ := HRUN1.out
                      have HO3 := hide ho3
                      have HG3 := hide hg3
                      obtain ⟨a3, c3, rfl⟩ := own_form HO3.out
                      refine wp_append_eq _ _ 54 rfl rfl rfl hr3 ?_
                      refine hK.out _ _ trivial (fun hHeld => ?_)
                      clear hK K ho3 hg3 hr3
                      try simp only [Act.put]
                      refine wpAnyL_one (i := 9) rfl (by kernel_rfl) (fun K hK => ?_)
                      obtain ⟨v4, w4, hr4, ho4, hb4⟩ := HRUN2.out _ _ HO3.out HG3.out
                      have HO4 := hide ho4
                      have HB4 := hide hb4
                      obtain ⟨a4, c4, rfl⟩ := own_form HO4.out
                      refine wp_append_eq _ _ 54 rfl rfl rfl hr4 ?_
                      refine hK.out _ _ trivial (fun hHeld => ?_)
                      clear hK K ho4 hb4 hr4
                      try simp only [Act.put]
                      refine wpAnyL_last rfl (by kernel_rfl) (by kernel_rfl) (fun K hK => ?_)
                      go_simp
                      refine hK.out _ _ ?_
                      clear hK K hHeld
                      obtain ⟨X3, hS3⟩ := HS2.out.put10 HB4.out (v' := .slice a4 (n - 1) c4) (ids' := ids.eraseIdx 0) (by
                        unfold RowI
                        rw [List.length_eraseIdx, hn10, if_pos hkn]
                        exact HO4.out)
                      have HS4 := hide hS3
                      have HLE2 : Hid ((ids.eraseIdx 0).length = n - 1) := hide (by rw [List.length_eraseIdx, hn10, if_pos hkn])
                      clear hS3 HB4 HO4 HO3 HG3 HRUN1 HRUN2 HOe HBe HR10 HS2
                      go_wp2
                      go_roundw
                      case rel => exact ⟨i + 1, R0, X3, now2, ids.eraseIdx 0, by have := HNB.out.1; omega, by simp, hide ⟨HS4.out, HCB2.out.1, by rw [HLE2.out]; have := HNB.out.1; omega, by rw [HCB2.out.2.2.2]; exact HNB.out.2.1, by have h1 := HCB2.out.2.2.1; have h2 := HNB.out.2.2.1; omega, HLN2.out, HCB2.out.2.1, HNX.out⟩⟩
                      case measure => simp [slLen]; omega
          · have hy1 : ¬ (1000 : Int) < (len : Int) := by omega
            clear h16 h1000
            have HBE := hide (HI.out.2.1.begin (by rw [← HI.out.2.1.len, hlen]; omega))
            have HBG := hide (mn_begin X wr g ms HI.out.1.mn (by rw [HI.out.2.2.2.1]; omega))
            rw [HBE.out.1] at HBG
            dsimp only at HBG
            have HGB : Hid (Gd ms.begun) := hide (by have := HI.out.2.2.2.2.2.1.begin; rwa [HBE.out.1] at this)
            have HLA : Hid (ms.last = k) := hide HI.out.2.2.2.1
            obtain ⟨T, hT⟩ : ∃ T : Int, (ms.last : Int) + 1 = T := ⟨_, rfl⟩
            have HT : Hid (-9223372036854775808 ≤ T ∧ T ≤ 9223372036854775807) := hide (by rw [← hT, HLA.out]; omega)
            rw [hT] at HBG HBE
            go_wp2_with fail
            refine HBG.out.mono ?_
            rintro e V1 ⟨rfl, hM, hF⟩
            have HS1 := hide (HI.out.1.step hM hF)
            have HNI1 : Hid (NowIs ms.begun l) := hide (HI.out.2.2.2.2.2.2.same rfl rfl)
            have HNO : Hid (ms.begun.now = 1 ∧ ms.begun.last = k + 1) := hide ⟨HI.out.2.2.2.2.1, by show ms.last + 1 = k + 1; rw [HLA.out]⟩
            have HBL1 := hide HBE.out.2
            clear hM hF HBG HBE HI HLA hT
            generalize ms.begun = m1 at *
            have HBb : Hid (Below V1.heap.size V1 (V1.alloc (.cells #[.int .i64 T] 3))) := hide ((Below.refl _ V1).alloc (Nat.le_refl _) _)
            have HS2 := hide (HS1.out.below HBb.out)
            have cT : (V1.alloc (.cells #[.int .i64 T] 3)).cell? ⟨V1.heap.size, 0, none⟩ = some (.int .i64 T) := cell_blk (heap_alloc_new V1 _) rfl
            have HR2 : Hid ((V1.alloc (.cells #[.int .i64 T] 3)).ownsRow B 3 1 (.slice a10 k c10) k (ids.flatMap ivc)) := hide (by have h := HS2.out.r10; unfold RowI at h; rw [hlen] at h; exact h)
            rw [hlen] at HS1 HS2
            go_wp2_with (at_builtin; refine wpList_num rfl _ _ rfl B (.slice a10 k c10) k ids rfl HR2.out V1.heap.size T rfl cT (by omega) HS2.out.sz ?_)
            intro v10 V2 HN
            have HN' := hide (show RowI V2 B v10 (ids ++ [T]) from by unfold RowI; rw [List.length_append, hlen]; simpa using HN.out.1)
            obtain ⟨X2, hS3⟩ := HS2.out.app10 HN.out.2.1 HN'.out (by simpa using HN.out.2.2)
            have HS3 := hide hS3
            obtain ⟨a2, c2, rfl⟩ := own_form HN.out.1
            have hlen2 : (ids ++ [T]).length = k + 1 := by rw [List.length_append, hlen]; rfl
            clear hS3 HN HN' HR2 HS2 HS1 cT HBb
            generalize ids ++ [T] = ids2 at *
            go_wp2
            go_loopw [74] (fun v74 wr => ∃ (i : Nat) (m2 : Mg), i ≤ n' ∧ v74 = .int .i64 (i : Nat) ∧ Hid (BS B w1 wr g m2 X2 (.slice a9 len c9) (.slice a2 (k + 1) c2) l ids2 ∧ Bl m2 ids2 ∧ m2.last = k + 1 ∧ m2.now = 1 ∧ Gd m2 ∧ NowIs m2 l)) (fun v74 _ => n' - (intOf v74).toNat)
            case atStart => exact ⟨0, m1, Nat.zero_le _, rfl, hide ⟨HS3.out, HBL1.out, HNO.out.2, HNO.out.1, HGB.out, HNI1.out⟩⟩
            case round =>
              obtain ⟨i, m2, hi, rfl, HJ⟩ := hrel
              by_cases hlt2 : i < n'
              · have HI2 : Hid (Below w.heap.size w wr) := hide (HB1.out.trans (HJ.out.1.lo.mono HWB.out))
                obtain ⟨b2, off2, rfl, hbs2, y0, y1, y2⟩ := (HW'.out.below HI2.out).2.2.2 i hlt2
                generalize (wl.getD k []).getD i Wt0 = x at *
                obtain ⟨x1, x2, x3⟩ := x
                dsimp only at y0 y1 y2
                have hw2 : IntKind.i64.wrap ((i : Int) + 1) = (i : Int) + 1 := wr64' (by omega) (by omega)
                have hj4 : (0 : Int) ≤ (i : Int) := by omega
                have hjI : (i : Int) < (n' : Int) := by omega
                have HBx : Hid (Below wr.heap.size wr (wr.alloc (.cells #[.string x1, .string x2, .bool x3] 64))) := hide ((Below.refl _ wr).alloc (Nat.le_refl _) _)
                have HXx : Hid (Blk3 (wr.alloc (.cells #[.string x1, .string x2, .bool x3] 64)) wr.heap.size x1 x2 x3) := hide (heap_alloc_new _ _)
                have HSx := hide (HJ.out.1.below HBx.out)
                obtain ⟨q0, q1, q2⟩ := HXx.out.cells
                cases x3 with
                | true =>
                  have HWR := hide (mn_delete X2 _ g m2 HSx.out.mn T HT.out x1)
                  have HNX := hide (HJ.out.2.1.write T ⟨x1, ⟨#[]⟩, true⟩)
                  have HGX : Hid (Gd (mWrite m2 T ⟨x1, ⟨#[]⟩, true⟩).1) := hide (HJ.out.2.2.2.2.1.write (by rw [HJ.out.2.2.2.1]; omega) T ⟨x1, ⟨#[]⟩, true⟩ (fun h => rfl))
                  have HNN2 : Hid (NowIs (mWrite m2 T ⟨x1, ⟨#[]⟩, true⟩).1 l) := hide (HJ.out.2.2.2.2.2.same HNX.out.2.1 HNX.out.2.2.1)
                  have HNU : Hid ((mWrite m2 T ⟨x1, ⟨#[]⟩, true⟩).1.last = k + 1 ∧ (mWrite m2 T ⟨x1, ⟨#[]⟩, true⟩).1.now = 1) := hide ⟨HNX.out.2.2.2.trans HJ.out.2.2.1, HNX.out.2.2.1.trans HJ.out.2.2.2.1⟩
                  have HBX := hide HNX.out.1
                  clear HNX HJ
                  go_wp2_with fail
                  refine HWR.out.mono ?_
                  rintro e V5 ⟨rfl, hM, hF⟩
                  have HS5 := hide (HSx.out.step hM hF)
                  clear hM hF HWR HSx q0 q1 q2
                  generalize (mWrite m2 T ⟨x1, ⟨#[]⟩, true⟩).1 = m3 at *
                  go_wp2
                  go_roundw
                  case rel => exact ⟨i + 1, m3, by omega, by simp, hide ⟨HS5.out, HBX.out, HNU.out.1, HNU.out.2, HGX.out, HNN2.out⟩⟩
                  case measure => simp [intOf]; omega
                | false =>
                  have HWR := hide (mn_put X2 _ g m2 HSx.out.mn T HT.out x1 x2)
                  have HNX := hide (HJ.out.2.1.write T ⟨x1, x2, false⟩)
                  have HGX : Hid (Gd (mWrite m2 T ⟨x1, x2, false⟩).1) := hide (HJ.out.2.2.2.2.1.write (by rw [HJ.out.2.2.2.1]; omega) T ⟨x1, x2, false⟩ (fun h => by cases h))
                  have HNN2 : Hid (NowIs (mWrite m2 T ⟨x1, x2, false⟩).1 l) := hide (HJ.out.2.2.2.2.2.same HNX.out.2.1 HNX.out.2.2.1)
                  have HNU : Hid ((mWrite m2 T ⟨x1, x2, false⟩).1.last = k + 1 ∧ (mWrite m2 T ⟨x1, x2, false⟩).1.now = 1) := hide ⟨HNX.out.2.2.2.trans HJ.out.2.2.1, HNX.out.2.2.1.trans HJ.out.2.2.2.1⟩
                  have HBX := hide HNX.out.1
                  clear HNX HJ
                  go_wp2_with fail
                  refine HWR.out.mono ?_
                  rintro e V5 ⟨rfl, hM, hF⟩
                  have HS5 := hide (HSx.out.step hM hF)
                  clear hM hF HWR HSx q0 q1 q2
                  generalize (mWrite m2 T ⟨x1, x2, false⟩).1 = m3 at *
                  go_wp2
                  go_roundw
                  case rel => exact ⟨i + 1, m3, by omega, by simp, hide ⟨HS5.out, HBX.out, HNU.out.1, HNU.out.2, HGX.out, HNN2.out⟩⟩
                  case measure => simp [intOf]; omega
              · obtain rfl : n' = i := by omega
                have hkk2 : ¬ ((n' : Nat) : Int) < ((n' : Nat) : Int) := by omega
                go_wp2
                go_roundw
                case rel => exact ⟨k + 1, m2, X2, ids2, by omega, by omega, by simp, hide ⟨HJ.out.1, HJ.out.2.1, hlen2, HJ.out.2.2.1, HJ.out.2.2.2.1, HJ.out.2.2.2.2.1, HJ.out.2.2.2.2.2⟩⟩
                case measure => simp [intOf]; omega
      · obtain rfl : wn = k := by omega
        have hkk : ¬ ((wn : Nat) : Int) < ((wn : Nat) : Int) := by omega
        go_wp2
        go_loopw [9, 10, 17] (fun v9 v10 v17 wr => ∃ (i : Nat) (ms : Mg) (X : Nat → Prop) (now : List Pr) (ids : List Int), i ≤ 16 ∧ v17 = .int .i64 (i : Nat) ∧ Hid (BS B w1 wr g ms X v9 v10 now ids ∧ Bl ms ids ∧ ids.length + i ≤ 16 ∧ ms.last ≤ 16 ∧ ms.now ≤ 1 + i ∧ now.length ≤ 4096 + 256 * i ∧ Gd ms ∧ NowIs ms now)) (fun _ v10 _ _ => slLen v10)
        case atStart => exact ⟨0, ms, X, l, ids, Nat.zero_le _, rfl, hide ⟨by have := HI.out.1; rw [hlen] at this; exact this, HI.out.2.1, by have := HI.out.2.2.1; omega, by have := HI.out.2.2.2.1; omega, by have := HI.out.2.2.2.2.1; omega, HLF.out, HI.out.2.2.2.2.2.1, HI.out.2.2.2.2.2.2⟩⟩
        case round =>
          clear HI HI' hlen
          obtain ⟨i, ms, X, now, ids, hi16, rfl, HI⟩ := hrel
          obtain ⟨a9, cn, rfl⟩ := own_form HI.out.1.r9
          by_cases hz : ids.length = 0
          · obtain ⟨a10, cw, rfl⟩ := own_form HI.out.1.r10
            rw [hz]
            have hE1 : ¬ (0 : Int) < ((0 : Nat) : Int) := by omega
            have hOP : ms.opn.length = 0 := by rw [← HI.out.2.1.len]; exact hz
            have HBE := hide (HI.out.2.1.begin (by omega))
            have HBG := hide (mn_begin X wr g ms HI.out.1.mn (by have := HI.out.2.2.2.1; omega))
            rw [HBE.out.1] at HBG
            dsimp only at HBG
            have HFS := hide (fresh_scan HI.out.2.2.2.2.2.2.2 HI.out.2.2.2.2.2.2.1 HI.out.1.mn.nums.1)
            have HT : Hid (-9223372036854775808 ≤ (ms.last : Int) + 1 ∧ (ms.last : Int) + 1 ≤ 9223372036854775807) := hide (by have := HI.out.2.2.2.1; omega)
            have HBS := hide HI.out.1
            clear HI HBE hOP
            generalize (ms.last : Int) + 1 = T at *
            generalize ms.begun = m1 at *
            go_wp2_with fail
            refine HBG.out.mono ?_
            rintro e V1 ⟨rfl, hM, hF⟩
            have HS1 := hide (HBS.out.step hM hF)
            have HSC := hide (mn_scan X V1 g m1 hM T HT.out ⟨#[]⟩ ⟨#[]⟩)
            rw [HFS.out.1] at HSC
            clear hM hF HBG HBS
            go_wp2_with fail
            refine HSC.out.mono ?_
            rintro e V2 ⟨v8, l8, rfl, hr8, hsl, hM, hF⟩
            obtain rfl := HFS.out.2 l8 hsl
            obtain ⟨a8, c8, rfl⟩ := own_form hr8
            have HS2 := hide (HS1.out.step (hM.mono (fun i hi => .inl hi)) hF)
            have HI8 : Hid (IsP V2 a8 l8.length c8 l8) := hide (by
              obtain ⟨a', c', e, h, _⟩ := own_isP rfl hr8
              cases e
              exact h)
            have HI9 : Hid (IsP V2 a9 l8.length cn l8) := hide (by
              obtain ⟨a', c', e, h, _⟩ := own_isP rfl HS2.out.r9
              cases e
              exact h)
            have HSM := hide (sameP_any a8 _ c8 l8 a9 _ cn l8 V2 HI8.out HI9.out)
            have HBF : Hid (Below w.heap.size w V2) := hide (HB1.out.trans (HS2.out.lo.mono HWB.out))
            clear hr8 hsl hM hF HSC HFS HI8 HI9 HS1 HS2
            go_wp2_with fail
            refine HSM.out.mono ?_
            rintro e V3 ⟨⟨q, rfl, hq⟩, hb3⟩
            obtain rfl : q = true := hq.2 (by simp)
            have HB3 := hide (HBF.out.trans (hb3.mono HBF.out.size))
            clear hb3 hq HSM
            go_wp2
            go_ret
            exact ⟨rfl, HB3.out⟩
          · obtain ⟨g10, cw, rfl, hncw, hcwm, hg10⟩ := rowI_form HI.out.1.r10 (by omega)
            obtain ⟨n, hn10⟩ : ∃ n, ids.length = n := ⟨_, rfl⟩
            have HR10 : Hid (wr.ownsRow B 3 1 (.slice (some ⟨g10, 0, none⟩) n cw) n (ids.flatMap ivc)) := hide (by have h := HI.out.1.r10; unfold RowI at h; rw [hn10] at h; exact h)
            rw [hn10] at hz hncw
            rw [hn10]
            have hcw : cw ≤ 9223372036854775807 := hcwm
            have hn16 : n ≤ 16 := by have := HI.out.2.2.1; omega
            have hnp : (0 : Int) < (n : Int) := by omega
            have hn0 : ¬ (n : Int) = 0 := by omega
            have hn0b : ((n : Int) == 0) = false := by simpa using hn0
            have hw3 : IntKind.i64.wrap ((i : Int) + 1) = (i : Int) + 1 := wr64' (by omega) (by omega)
            have hp4 : (0 : Int) ≤ (i : Int) := by omega
            obtain ⟨HOb⟩ : Nonempty (∀ j, j < on → ∃ b off, oa = some ⟨b, off, none⟩ ∧ i64B (ol.getD j 0) ∧ wr.cell? ⟨b, off + j, none⟩ = some (.int .i64 (ol.getD j 0))) := ⟨fun j hj => by
              obtain ⟨ht, b, off, e, hb, hc⟩ := HOO.out.2.2.2 j hj
              exact ⟨b, off, e, ht, (World.cell?_of_block ((HB1.out.trans (HI.out.1.lo.mono HWB.out)).block b hb)).trans hc⟩⟩
            by_cases hio : i < on
            · obtain ⟨bo, offo, rfl, htx, cx⟩ := HOb i hio
              clear HOb
              have hiO : (i : Int) < (on : Int) := by omega
              generalize ol.getD i 0 = xo at *
              by_cases hxo : 0 < xo
              · obtain ⟨kk, hkk⟩ : ∃ kk : Nat, (kk : Int) = xo.tmod (n : Int) := ⟨(xo.tmod (n : Int)).toNat, Int.toNat_of_nonneg (Int.tmod_nonneg _ (by omega))⟩
                have hkn : kk < n := by
                  have := Int.tmod_lt_of_pos xo hnp
                  omega
                have hkw : IntKind.i64.wrap (kk : Int) = (kk : Int) := wr64' (by omega) (by omega)
                have hkk2 : xo.tmod (n : Int) = (kk : Int) := hkk.symm
                clear hkk
                have hKn : (kk : Int) < (n : Int) := by omega
                have hKc : (kk : Int) ≤ (cw : Int) := by omega
                have hKc1 : (kk : Int) + 1 ≤ (cw : Int) := by omega
                have hKn1 : (kk : Int) + 1 ≤ (n : Int) := by omega
                have hK0 : (0 : Int) ≤ (kk : Int) := by omega
                have hK01 : (0 : Int) ≤ (kk : Int) + 1 := by omega
                have hKw : IntKind.i64.wrap ((kk : Int) + 1) = (kk : Int) + 1 := wr64' (by omega) (by omega)
                by_cases hcK : cw = kk + 1
                · have HCK := hide hcK
                  have hcK1 : (cw = kk + 1) = True := eq_true hcK
                  clear hcK
                  have ct : wr.cell? ⟨g10, kk, none⟩ = some (.int .i64 (ids.getD kk 0)) := rowI_cells HR10.out kk hkn hn10
                  have HTB : Hid (i64B (ids.getD kk 0)) := hide (by
                    rw [HI.out.2.1.num, List.getD_eq_getElem?_getD, List.getElem?_map]
                    have hkl : kk < ms.opn.length := by rw [← HI.out.2.1.len, hn10]; exact hkn
                    rw [List.getElem?_eq_getElem hkl]
                    have h1 := HI.out.1.mn.nums.1 _ (List.getElem_mem hkl)
                    have h2 := HI.out.2.2.2.1
                    show i64B (((ms.opn[kk]'hkl).1 : Nat) : Int)
                    unfold i64B
                    omega)
                  have HCM := hide (mn_commit X wr g ms HI.out.1.mn (ids.getD kk 0) HTB.out (by have := HI.out.2.2.2.2.1; omega))
                  have HCB := hide (HI.out.2.1.commit HI.out.2.2.2.2.2.2.1 (by have := HI.out.2.2.2.2.1; omega) HI.out.1.mn.nums.2 HI.out.1.mn.srt HI.out.1.mn.few (k := kk) (by rw [hn10]; exact hkn))
                  have HNW := hide (fun h => HI.out.2.2.2.2.2.2.2.commit HI.out.2.2.2.2.2.2.1 HI.out.1.mn.srt (t := ids.getD kk 0) h)
                  have HSP := hide HI.out.2.2.2.2.2.2.2.1
                  have HBS := hide HI.out.1
                  have HNB : Hid (ids.length + i ≤ 16 ∧ ms.last ≤ 16 ∧ ms.now ≤ 1 + i ∧ now.length ≤ 4096 + 256 * i) := hide ⟨HI.out.2.2.1, HI.out.2.2.2.1, HI.out.2.2.2.2.1, HI.out.2.2.2.2.2.1⟩
                  clear HI HTB
                  generalize ids.getD kk 0 = T at *
                  generalize mCommit ms T = R at *
                  obtain ⟨R0, R1, R2, R3⟩ := R
                  dsimp only at HCM HCB HNW
                  go_wp2_with fail
                  refine HCM.out.mono ?_
                  rintro e V1 ⟨vd, rfl, hrow, hM, hF⟩
                  have HS1 := hide (HBS.out.step (hM.mono (fun i hi => .inl hi)) hF)
                  have HRD := hide hrow
                  obtain ⟨ad, cd, rfl⟩ := own_form hrow
                  clear hM hF hrow HCM HBS ct
                  have HBF : Hid (Below w.heap.size w V1) := hide (HB1.out.trans (HS1.out.lo.mono HWB.out))
                  rcases HCB.out.2.1 with hR3 | hR3
                  case inr =>
                    subst hR3
                    go_wp2
                    go_ret
                    exact ⟨rfl, HBF.out⟩
                  case inl =>
                    subst hR3
                    have HNX := hide (HNW.out rfl)
                    have HR9 := hide HS1.out.r9
                    have HIP : Hid (IsP V1 a9 now.length cn now) := hide (by
                      obtain ⟨a', c', e, h, _⟩ := own_isP rfl HR9.out
                      cases e
                      exact h)
                    have HIW : Hid (IsW V1 ad R1.length cd R1) := hide (own_isW rfl HRD.out)
                    have HAL := hide (all_any a9 now.length cn now ad R1.length cd R1 V1 HIP.out (fun h => own_none HR9.out h) HIW.out (by have h1 := HNB.out; have h2 := HCB.out.2.2.2.2.2.1; omega))
                    rw [docA_is R1 HSP.out] at HAL
                    have HLN2 : Hid ((allP now R1).length ≤ 4096 + 256 * (i + 1)) := hide (by have h1 := HNB.out; have h2 := HCB.out.2.2.2.2.2.1; have h3 := allP_len R1 now; omega)
                    have HCB2 : Hid (Bl R0 (ids.eraseIdx kk) ∧ Gd R0 ∧ R0.now ≤ ms.now + 1 ∧ R0.last = ms.last) := hide ⟨HCB.out.1, HCB.out.2.2.1, HCB.out.2.2.2.1, HCB.out.2.2.2.2.1⟩
                    clear HIP HIW HR9 HRD HNW HSP HCB
                    generalize allP now R1 = now2 at *
                    go_wp2_with fail
                    refine HAL.out.mono ?_
                    rintro e V2 ⟨v2, rfl, hr2, hb2⟩
                    obtain ⟨X2, hS2⟩ := HS1.out.put9 hb2 hr2
                    have HS2 := hide hS2
                    clear hr2 hb2 hS2 HAL HS1
                    have HR10 : Hid (V2.ownsRow B 3 1 (.slice (some ⟨g10, 0, none⟩) n cw) n (ids.flatMap ivc)) := hide (by have h := HS2.out.r10; unfold RowI at h; rw [hn10] at h; exact h)
                    have hg10 : g10 < V2.heap.size := (HR10.out.lt g10 rfl).2
                    have HBe : Hid (Below V2.heap.size V2 (V2.drew.alloc (.cells #[] 3))) := hide ((Below.refl _ V2).drew.alloc (Nat.le_refl _) _)
                    have HOe : Hid ((V2.drew.alloc (.cells #[] 3)).ownsRow V2.heap.size 3 1 (.slice (some ⟨V2.heap.size, 0, none⟩) 0 0) 0 (([] : List Int).flatMap ivc)) := hide (World.ownsRow_made V2.drew #[] 0 (Nat.le_refl _) (by decide) rfl)
                    have HRUN1 := hide (run_nums (cap := cw) (l := ids.take kk) (len := kk) ⟨g10, 0, none⟩ HOe.out (by rw [List.length_take, hn10]; omega) (fun j hj => by
                      rw [oadd0, Nat.zero_add, World.cell?_of_block (HBe.out.block g10 hg10), rowI_cells HR10.out j (by omega) hn10]
                      first | omega | simp [List.getD_eq_getElem?_getD, List.getElem?_take, hj]) (by omega) HBe.out.size)
                    have HRUN2 : Hid (∀ (v3 : Value) (w3 : World), w3.ownsRow V2.heap.size 3 1 v3 (0 + kk) (([] ++ ids.take kk).flatMap ivc) → (V2.drew.alloc (.cells #[] 3)).grownBy w3 (Value.slice (some ⟨V2.heap.size, 0, none⟩) 0 0).ownBlock → ∃ v4 w4, (Builtin.append_ #[54, 54] 54 #[v3, .slice (some ⟨g10, 0, none⟩) (n - (kk + 1)) (cw - (kk + 1))]).run Tryz.prog w3 = .ok v4 w4 ∧ w4.ownsRow V2.heap.size 3 1 v4 (n - 1) ((ids.eraseIdx kk).flatMap ivc) ∧ Below V2.heap.size V2 w4) := hide (fun v3 w3 ho3 hg3 => by
                      have hb3 : Below V2.heap.size V2 w3 := HBe.out.trans ((Below.refl _ _).grown hg3 HBe.out.size (fun k hk => Nat.le_of_eq (by simpa [Value.ownBlock] using hk)))
                      obtain ⟨v4, w4, hr4, ho4, hg4⟩ := run_nums (cap := cw - (kk + 1)) (l := ids.drop (kk + 1)) (len := n - (kk + 1)) ⟨g10, 0, none⟩ ho3 (by rw [List.length_drop, hn10]) (fun j hj => by
                        have := HCK.out
                        omega) (by omega) hb3.size
                      refine ⟨v4, w4, hr4, ?_, hb3.trans ((Below.refl _ _).grown hg4 hb3.size (fun k hk => (ho3.lt k hk).1))⟩
                      rw [erase_split]
                      have e : 0 + kk + (n - (kk + 1)) = n - 1 := by omega
                      rw [e] at ho4
                      simpa using ho4)
                    go_wp2_with fail
                    refine wp_region_last 10 (fun W' : World => True) (by kernel_rfl) trivial (fun hHeld => ?_)
                    refine wpAnyL_take (i := 1) (v := ?v1r13) rfl (by kernel_rfl) (fun _ _ _ h => h) (by assumption) (by rfl) ?hy1r13 ?hn1r13
                    case hy1r13 => (intro w hSw; (try dsimp only at hSw); skip; go_simp; try with_reducible rfl)
                    try simp only [Act.put]
                    refine wpAnyL_take (i := 2) (v := ?v2r13) rfl (by kernel_rfl) (fun _ _ _ h => h) (by assumption) (by rfl) ?hy2r13 ?hn2r13
                    case hy2r13 => (intro w hSw; (try dsimp only at hSw); skip; go_simp; try with_reducible rfl)
                    try simp only [Act.put]
                    refine wpAnyL_take (i := 3) (v := ?v3r13) rfl (by kernel_rfl) (fun _ _ _ h => h) (by assumption) (by rfl) ?hy3r13 ?hn3r13
                    case hy3r13 => (intro w hSw; (try dsimp only at hSw); skip; go_simp; try with_reducible rfl)
                    try simp only [Act.put]
                    refine wpAnyL_take (i := 5) (v := ?v5r13) rfl (by kernel_rfl) (fun _ _ _ h => h) (by assumption) (by rfl) ?hy5r13 ?hn5r13
                    case hy5r13 => (intro w hSw; (try dsimp only at hSw); skip; go_simp; try with_reducible rfl)
                    try simp only [Act.put]
                    refine wpAnyL_take (i := 6) (v := ?v6r13) rfl (by kernel_rfl) (fun _ _ _ h => h) (by assumption) (by rfl) ?hy6r13 ?hn6r13
                    case hy6r13 => (intro w hSw; (try dsimp only at hSw); skip; go_simp; try with_reducible rfl)
                    try simp only [Act.put]
                    refine wpAnyL_take (i := 7) (v := ?v7r13) rfl (by kernel_rfl) (fun _ _ _ h => h) (by assumption) (by rfl) ?hy7r13 ?hn7r13
                    case hy7r13 => (intro w hSw; (try dsimp only at hSw); skip; go_simp; try with_reducible rfl)
                    try simp only [Act.put]
                    refine wpAnyL_take (i := 8) (v := ?v8r13) rfl (by kernel_rfl) (fun _ _ _ h => h) (by assumption) (by rfl) ?hy8r13 ?hn8r13
                    case hy8r13 => (intro w hSw; (try dsimp only at hSw); skip; go_simp; try with_reducible rfl)
                    try simp only [Act.put]
                    refine wpAnyL_one (i := 0) rfl (by kernel_rfl) (fun K hK => ?_)
                    go_simp
                    refine hK.out _ _ trivial (fun hHeld => ?_)
                    clear hK K
                    try simp only [Act.put]
                    refine wpAnyL_one (i := 4) rfl (by kernel_rfl) (fun K hK => ?_)
                    obtain ⟨v3, w3, hr3, ho3, hg3⟩ := HRUN1.out
                    have HO3 := hide ho3
                    have HG3 := hide hg3
                    obtain ⟨a3, c3, rfl⟩ := own_form HO3.out
                    refine wp_append_eq _ _ 54 rfl rfl rfl hr3 ?_
                    refine hK.out _ _ trivial (fun hHeld => ?_)
                    clear hK K ho3 hg3 hr3
                    try simp only [Act.put]
                    refine wpAnyL_one (i := 9) rfl (by kernel_rfl) (fun K hK => ?_)
                    obtain ⟨v4, w4, hr4, ho4, hb4⟩ := HRUN2.out _ _ HO3.out HG3.out
                    have HO4 := hide ho4
                    have HB4 := hide hb4
                    obtain ⟨a4, c4, rfl⟩ := own_form HO4.out
                    refine wp_append_eq _ _ 54 rfl rfl rfl hr4 ?_
                    refine hK.out _ _ trivial (fun hHeld => ?_)
                    clear hK K ho4 hb4 hr4
                    try simp only [Act.put]
                    refine wpAnyL_last rfl (by kernel_rfl) (by kernel_rfl) (fun K hK => ?_)
                    go_simp
                    refine hK.out _ _ ?_
                    clear hK K hHeld
                    obtain ⟨X3, hS3⟩ := HS2.out.put10 HB4.out (v' := .slice a4 (n - 1) c4) (ids' := ids.eraseIdx kk) (by
                      unfold RowI
                      rw [List.length_eraseIdx, hn10, if_pos hkn]
                      exact HO4.out)
                    have HS4 := hide hS3
                    have HLE2 : Hid ((ids.eraseIdx kk).length = n - 1) := hide (by rw [List.length_eraseIdx, hn10, if_pos hkn])
                    clear hS3 HB4 HO4 HO3 HG3 HRUN1 HRUN2 HOe HBe HR10 HS2
                    go_wp2
                    go_roundw
                    case rel => exact ⟨i + 1, R0, X3, now2, ids.eraseIdx kk, by have := HNB.out.1; omega, by simp, hide ⟨HS4.out, HCB2.out.1, by rw [HLE2.out]; have := HNB.out.1; omega, by rw [HCB2.out.2.2.2]; exact HNB.out.2.1, by have h1 := HCB2.out.2.2.1; have h2 := HNB.out.2.2.1; omega, HLN2.out, HCB2.out.2.1, HNX.out⟩⟩
                    case measure => simp [slLen]; omega
                · have hcK2 : ¬ (cw : Int) = (kk : Int) + 1 := by omega
                  have ct : wr.cell? ⟨g10, kk, none⟩ = some (.int .i64 (ids.getD kk 0)) := rowI_cells HR10.out kk hkn hn10
                  have HTB : Hid (i64B (ids.getD kk 0)) := hide (by
                    rw [HI.out.2.1.num, List.getD_eq_getElem?_getD, List.getElem?_map]
                    have hkl : kk < ms.opn.length := by rw [← HI.out.2.1.len, hn10]; exact hkn
                    rw [List.getElem?_eq_getElem hkl]
                    have h1 := HI.out.1.mn.nums.1 _ (List.getElem_mem hkl)
                    have h2 := HI.out.2.2.2.1
                    show i64B (((ms.opn[kk]'hkl).1 : Nat) : Int)
                    unfold i64B
                    omega)
                  have HCM := hide (mn_commit X wr g ms HI.out.1.mn (ids.getD kk 0) HTB.out (by have := HI.out.2.2.2.2.1; omega))
                  have HCB := hide (HI.out.2.1.commit HI.out.2.2.2.2.2.2.1 (by have := HI.out.2.2.2.2.1; omega) HI.out.1.mn.nums.2 HI.out.1.mn.srt HI.out.1.mn.few (k := kk) (by rw [hn10]; exact hkn))
                  have HNW := hide (fun h => HI.out.2.2.2.2.2.2.2.commit HI.out.2.2.2.2.2.2.1 HI.out.1.mn.srt (t := ids.getD kk 0) h)
                  have HSP := hide HI.out.2.2.2.2.2.2.2.1
                  have HBS := hide HI.out.1
                  have HNB : Hid (ids.length + i ≤ 16 ∧ ms.last ≤ 16 ∧ ms.now ≤ 1 + i ∧ now.length ≤ 4096 + 256 * i) := hide ⟨HI.out.2.2.1, HI.out.2.2.2.1, HI.out.2.2.2.2.1, HI.out.2.2.2.2.2.1⟩
                  clear HI HTB
                  generalize ids.getD kk 0 = T at *
                  generalize mCommit ms T = R at *
                  obtain ⟨R0, R1, R2, R3⟩ := R
                  dsimp only at HCM HCB HNW
                  go_wp2_with fail
                  refine HCM.out.mono ?_
                  rintro e V1 ⟨vd, rfl, hrow, hM, hF⟩
                  have HS1 := hide (HBS.out.step (hM.mono (fun i hi => .inl hi)) hF)
                  have HRD := hide hrow
                  obtain ⟨ad, cd, rfl⟩ := own_form hrow
                  clear hM hF hrow HCM HBS ct
                  have HBF : Hid (Below w.heap.size w V1) := hide (HB1.out.trans (HS1.out.lo.mono HWB.out))
                  rcases HCB.out.2.1 with hR3 | hR3
                  case inr =>
                    subst hR3
                    go_wp2
                    go_ret
                    exact ⟨rfl, HBF.out⟩
                  case inl =>
                    subst hR3
                    have HNX := hide (HNW.out rfl)
                    have HR9 := hide HS1.out.r9
                    have HIP : Hid (IsP V1 a9 now.length cn now) := hide (by
                      obtain ⟨a', c', e, h, _⟩ := own_isP rfl HR9.out
                      cases e
                      exact h)
                    have HIW : Hid (IsW V1 ad R1.length cd R1) := hide (own_isW rfl HRD.out)
                    have HAL := hide (all_any a9 now.length cn now ad R1.length cd R1 V1 HIP.out (fun h => own_none HR9.out h) HIW.out (by have h1 := HNB.out; have h2 := HCB.out.2.2.2.2.2.1; omega))
                    rw [docA_is R1 HSP.out] at HAL
                    have HLN2 : Hid ((allP now R1).length ≤ 4096 + 256 * (i + 1)) := hide (by have h1 := HNB.out; have h2 := HCB.out.2.2.2.2.2.1; have h3 := allP_len R1 now; omega)
                    have HCB2 : Hid (Bl R0 (ids.eraseIdx kk) ∧ Gd R0 ∧ R0.now ≤ ms.now + 1 ∧ R0.last = ms.last) := hide ⟨HCB.out.1, HCB.out.2.2.1, HCB.out.2.2.2.1, HCB.out.2.2.2.2.1⟩
                    clear HIP HIW HR9 HRD HNW HSP HCB
                    generalize allP now R1 = now2 at *
                    go_wp2_with fail
                    refine HAL.out.mono ?_
                    rintro e V2 ⟨v2, rfl, hr2, hb2⟩
                    obtain ⟨X2, hS2⟩ := HS1.out.put9 hb2 hr2
                    have HS2 := hide hS2
                    clear hr2 hb2 hS2 HAL HS1
                    have HR10 : Hid (V2.ownsRow B 3 1 (.slice (some ⟨g10, 0, none⟩) n cw) n (ids.flatMap ivc)) := hide (by have h := HS2.out.r10; unfold RowI at h; rw [hn10] at h; exact h)
                    have hg10 : g10 < V2.heap.size := (HR10.out.lt g10 rfl).2
                    have HBe : Hid (Below V2.heap.size V2 (V2.drew.alloc (.cells #[] 3))) := hide ((Below.refl _ V2).drew.alloc (Nat.le_refl _) _)
                    have HOe : Hid ((V2.drew.alloc (.cells #[] 3)).ownsRow V2.heap.size 3 1 (.slice (some ⟨V2.heap.size, 0, none⟩) 0 0) 0 (([] : List Int).flatMap ivc)) := hide (World.ownsRow_made V2.drew #[] 0 (Nat.le_refl _) (by decide) rfl)
                    have HRUN1 := hide (run_nums (cap := cw) (l := ids.take kk) (len := kk) ⟨g10, 0, none⟩ HOe.out (by rw [List.length_take, hn10]; omega) (fun j hj => by
                      rw [oadd0, Nat.zero_add, World.cell?_of_block (HBe.out.block g10 hg10), rowI_cells HR10.out j (by omega) hn10]
                      first | omega | simp [List.getD_eq_getElem?_getD, List.getElem?_take, hj]) (by omega) HBe.out.size)
                    have HRUN2 : Hid (∀ (v3 : Value) (w3 : World), w3.ownsRow V2.heap.size 3 1 v3 (0 + kk) (([] ++ ids.take kk).flatMap ivc) → (V2.drew.alloc (.cells #[] 3)).grownBy w3 (Value.slice (some ⟨V2.heap.size, 0, none⟩) 0 0).ownBlock → ∃ v4 w4, (Builtin.append_ #[54, 54] 54 #[v3, .slice (some ⟨g10, kk + 1, none⟩) (n - (kk + 1)) (cw - (kk + 1))]).run Tryz.prog w3 = .ok v4 w4 ∧ w4.ownsRow V2.heap.size 3 1 v4 (n - 1) ((ids.eraseIdx kk).flatMap ivc) ∧ Below V2.heap.size V2 w4) := hide (fun v3 w3 ho3 hg3 => by
                      have hb3 : Below V2.heap.size V2 w3 := HBe.out.trans ((Below.refl _ _).grown hg3 HBe.out.size (fun k hk => Nat.le_of_eq (by simpa [Value.ownBlock] using hk)))
                      obtain ⟨v4, w4, hr4, ho4, hg4⟩ := run_nums (cap := cw - (kk + 1)) (l := ids.drop (kk + 1)) (len := n - (kk + 1)) ⟨g10, kk + 1, none⟩ ho3 (by rw [List.length_drop, hn10]) (fun j hj => by
                        rw [oadd0]
                        rw [World.cell?_of_block (hb3.block g10 hg10), rowI_cells HR10.out (kk + 1 + j) (by omega) hn10]
                        first | (simp [List.getD_eq_getElem?_getD, List.getElem?_drop]; done) | (simp [List.getD_eq_getElem?_getD, List.getElem?_drop, Nat.add_comm]; done)) (by omega) hb3.size
                      refine ⟨v4, w4, hr4, ?_, hb3.trans ((Below.refl _ _).grown hg4 hb3.size (fun k hk => (ho3.lt k hk).1))⟩
                      rw [erase_split]
                      have e : 0 + kk + (n - (kk + 1)) = n - 1 := by omega
                      rw [e] at ho4
                      simpa using ho4)
                    go_wp2_with fail
                    refine wp_region_last 10 (fun W' : World => True) (by kernel_rfl) trivial (fun hHeld => ?_)
                    refine wpAnyL_take (i := 1) (v := ?v1r14) rfl (by kernel_rfl) (fun _ _ _ h => h) (by assumption) (by rfl) ?hy1r14 ?hn1r14
                    case hy1r14 => (intro w hSw; (try dsimp only at hSw); skip; go_simp; try with_reducible rfl)
                    try simp only [Act.put]
                    refine wpAnyL_take (i := 2) (v := ?v2r14) rfl (by kernel_rfl) (fun _ _ _ h => h) (by assumption) (by rfl) ?hy2r14 ?hn2r14
                    case hy2r14 => (intro w hSw; (try dsimp only at hSw); skip; go_simp; try with_reducible rfl)
                    try simp only [Act.put]
                    refine wpAnyL_take (i := 3) (v := ?v3r14) rfl (by kernel_rfl) (fun _ _ _ h => h) (by assumption) (by rfl) ?hy3r14 ?hn3r14
                    case hy3r14 => (intro w hSw; (try dsimp only at hSw); skip; go_simp; try with_reducible rfl)
                    try simp only [Act.put]
                    refine wpAnyL_take (i := 5) (v := ?v5r14) rfl (by kernel_rfl) (fun _ _ _ h => h) (by assumption) (by rfl) ?hy5r14 ?hn5r14
                    case hy5r14 => (intro w hSw; (try dsimp only at hSw); skip; go_simp; try with_reducible rfl)
                    try simp only [Act.put]
                    refine wpAnyL_take (i := 6) (v := ?v6r14) rfl (by kernel_rfl) (fun _ _ _ h => h) (by assumption) (by rfl) ?hy6r14 ?hn6r14
                    case hy6r14 => (intro w hSw; (try dsimp only at hSw); skip; go_simp; try with_reducible rfl)
                    try simp only [Act.put]
                    refine wpAnyL_take (i := 7) (v := ?v7r14) rfl (by kernel_rfl) (fun _ _ _ h => h) (by assumption) (by rfl) ?hy7r14 ?hn7r14
                    case hy7r14 => (intro w hSw; (try dsimp only at hSw); skip; go_simp; try with_reducible rfl)
                    try simp only [Act.put]
                    refine wpAnyL_take (i := 8) (v := ?v8r14) rfl (by kernel_rfl) (fun _ _ _ h => h) (by assumption) (by rfl) ?hy8r14 ?hn8r14
                    case hy8r14 => (intro w hSw; (try dsimp only at hSw); skip; go_simp; try with_reducible rfl)
                    try simp only [Act.put]
                    refine wpAnyL_one (i := 0) rfl (by kernel_rfl) (fun K hK => ?_)
                    go_simp
                    refine hK.out _ _ trivial (fun hHeld => ?_)
                    clear hK K
                    try simp only [Act.put]
                    refine wpAnyL_one (i := 4) rfl (by kernel_rfl) (fun K hK => ?_)
                    obtain ⟨v3, w3, hr3, ho3, hg3⟩ := HRUN1.out
                    have HO3 := hide ho3
                    have HG3 := hide hg3
                    obtain ⟨a3, c3, rfl⟩ := own_form HO3.out
                    refine wp_append_eq _ _ 54 rfl rfl rfl hr3 ?_
                    refine hK.out _ _ trivial (fun hHeld => ?_)
                    clear hK K ho3 hg3 hr3
                    try simp only [Act.put]
                    refine wpAnyL_one (i := 9) rfl (by kernel_rfl) (fun K hK => ?_)
                    obtain ⟨v4, w4, hr4, ho4, hb4⟩ := HRUN2.out _ _ HO3.out HG3.out
                    have HO4 := hide ho4
                    have HB4 := hide hb4
                    obtain ⟨a4, c4, rfl⟩ := own_form HO4.out
                    refine wp_append_eq _ _ 54 rfl rfl rfl hr4 ?_
                    refine hK.out _ _ trivial (fun hHeld => ?_)
                    clear hK K ho4 hb4 hr4
                    try simp only [Act.put]
                    refine wpAnyL_last rfl (by kernel_rfl) (by kernel_rfl) (fun K hK => ?_)
                    go_simp
                    refine hK.out _ _ ?_
                    clear hK K hHeld
                    obtain ⟨X3, hS3⟩ := HS2.out.put10 HB4.out (v' := .slice a4 (n - 1) c4) (ids' := ids.eraseIdx kk) (by
                      unfold RowI
                      rw [List.length_eraseIdx, hn10, if_pos hkn]
                      exact HO4.out)
                    have HS4 := hide hS3
                    have HLE2 : Hid ((ids.eraseIdx kk).length = n - 1) := hide (by rw [List.length_eraseIdx, hn10, if_pos hkn])
                    clear hS3 HB4 HO4 HO3 HG3 HRUN1 HRUN2 HOe HBe HR10 HS2
                    go_wp2
                    go_roundw
                    case rel => exact ⟨i + 1, R0, X3, now2, ids.eraseIdx kk, by have := HNB.out.1; omega, by simp, hide ⟨HS4.out, HCB2.out.1, by rw [HLE2.out]; have := HNB.out.1; omega, by rw [HCB2.out.2.2.2]; exact HNB.out.2.1, by have h1 := HCB2.out.2.2.1; have h2 := HNB.out.2.2.1; omega, HLN2.out, HCB2.out.2.1, HNX.out⟩⟩
                    case measure => simp [slLen]; omega
              · have hxo2 : ¬ (0 : Int) < xo := hxo
                have hkn : 0 < n := by omega
                have hKn : (0 : Int) < (n : Int) := by omega
                have hKc : (0 : Int) ≤ (cw : Int) := by omega
                have hKc1 : (1 : Int) ≤ (cw : Int) := by omega
                have hKn1 : (1 : Int) ≤ (n : Int) := by omega
                have hKw : IntKind.i64.wrap (1 : Int) = 1 := wr64' (by omega) (by omega)
                by_cases hcK : cw = 1
                · have HCK := hide hcK
                  have hcK1 : (cw = 1) = True := eq_true hcK
                  clear hcK
                  have ct : wr.cell? ⟨g10, 0, none⟩ = some (.int .i64 (ids.getD 0 0)) := rowI_cells HR10.out 0 hkn hn10
                  have HTB : Hid (i64B (ids.getD 0 0)) := hide (by
                    rw [HI.out.2.1.num, List.getD_eq_getElem?_getD, List.getElem?_map]
                    have hkl : 0 < ms.opn.length := by rw [← HI.out.2.1.len, hn10]; exact hkn
                    rw [List.getElem?_eq_getElem hkl]
                    have h1 := HI.out.1.mn.nums.1 _ (List.getElem_mem hkl)
                    have h2 := HI.out.2.2.2.1
                    show i64B (((ms.opn[0]'hkl).1 : Nat) : Int)
                    unfold i64B
                    omega)
                  have HCM := hide (mn_commit X wr g ms HI.out.1.mn (ids.getD 0 0) HTB.out (by have := HI.out.2.2.2.2.1; omega))
                  have HCB := hide (HI.out.2.1.commit HI.out.2.2.2.2.2.2.1 (by have := HI.out.2.2.2.2.1; omega) HI.out.1.mn.nums.2 HI.out.1.mn.srt HI.out.1.mn.few (k := 0) (by rw [hn10]; exact hkn))
                  have HNW := hide (fun h => HI.out.2.2.2.2.2.2.2.commit HI.out.2.2.2.2.2.2.1 HI.out.1.mn.srt (t := ids.getD 0 0) h)
                  have HSP := hide HI.out.2.2.2.2.2.2.2.1
                  have HBS := hide HI.out.1
                  have HNB : Hid (ids.length + i ≤ 16 ∧ ms.last ≤ 16 ∧ ms.now ≤ 1 + i ∧ now.length ≤ 4096 + 256 * i) := hide ⟨HI.out.2.2.1, HI.out.2.2.2.1, HI.out.2.2.2.2.1, HI.out.2.2.2.2.2.1⟩
                  clear HI HTB
                  generalize ids.getD 0 0 = T at *
                  generalize mCommit ms T = R at *
                  obtain ⟨R0, R1, R2, R3⟩ := R
                  dsimp only at HCM HCB HNW
                  go_wp2_with fail
                  refine HCM.out.mono ?_
                  rintro e V1 ⟨vd, rfl, hrow, hM, hF⟩
                  have HS1 := hide (HBS.out.step (hM.mono (fun i hi => .inl hi)) hF)
                  have HRD := hide hrow
                  obtain ⟨ad, cd, rfl⟩ := own_form hrow
                  clear hM hF hrow HCM HBS ct
                  have HBF : Hid (Below w.heap.size w V1) := hide (HB1.out.trans (HS1.out.lo.mono HWB.out))
                  rcases HCB.out.2.1 with hR3 | hR3
                  case inr =>
                    subst hR3
                    go_wp2
                    go_ret
                    exact ⟨rfl, HBF.out⟩
                  case inl =>
                    subst hR3
                    have HNX := hide (HNW.out rfl)
                    have HR9 := hide HS1.out.r9
                    have HIP : Hid (IsP V1 a9 now.length cn now) := hide (by
                      obtain ⟨a', c', e, h, _⟩ := own_isP rfl HR9.out
                      cases e
                      exact h)
                    have HIW : Hid (IsW V1 ad R1.length cd R1) := hide (own_isW rfl HRD.out)
                    have HAL := hide (all_any a9 now.length cn now ad R1.length cd R1 V1 HIP.out (fun h => own_none HR9.out h) HIW.out (by have h1 := HNB.out; have h2 := HCB.out.2.2.2.2.2.1; omega))
                    rw [docA_is R1 HSP.out] at HAL
                    have HLN2 : Hid ((allP now R1).length ≤ 4096 + 256 * (i + 1)) := hide (by have h1 := HNB.out; have h2 := HCB.out.2.2.2.2.2.1; have h3 := allP_len R1 now; omega)
                    have HCB2 : Hid (Bl R0 (ids.eraseIdx 0) ∧ Gd R0 ∧ R0.now ≤ ms.now + 1 ∧ R0.last = ms.last) := hide ⟨HCB.out.1, HCB.out.2.2.1, HCB.out.2.2.2.1, HCB.out.2.2.2.2.1⟩
                    clear HIP HIW HR9 HRD HNW HSP HCB
                    generalize allP now R1 = now2 at *
                    go_wp2_with fail
                    refine HAL.out.mono ?_
                    rintro e V2 ⟨v2, rfl, hr2, hb2⟩
                    obtain ⟨X2, hS2⟩ := HS1.out.put9 hb2 hr2
                    have HS2 := hide hS2
                    clear hr2 hb2 hS2 HAL HS1
                    have HR10 : Hid (V2.ownsRow B 3 1 (.slice (some ⟨g10, 0, none⟩) n cw) n (ids.flatMap ivc)) := hide (by have h := HS2.out.r10; unfold RowI at h; rw [hn10] at h; exact h)
                    have hg10 : g10 < V2.heap.size := (HR10.out.lt g10 rfl).2
                    have HBe : Hid (Below V2.heap.size V2 (V2.drew.alloc (.cells #[] 3))) := hide ((Below.refl _ V2).drew.alloc (Nat.le_refl _) _)
                    have HOe : Hid ((V2.drew.alloc (.cells #[] 3)).ownsRow V2.heap.size 3 1 (.slice (some ⟨V2.heap.size, 0, none⟩) 0 0) 0 (([] : List Int).flatMap ivc)) := hide (World.ownsRow_made V2.drew #[] 0 (Nat.le_refl _) (by decide) rfl)
                    have HRUN1 := hide (run_nums (cap := cw) (l := ids.take 0) (len := 0) ⟨g10, 0, none⟩ HOe.out (by rw [List.length_take, hn10]; omega) (fun j hj => by
                      rw [oadd0, Nat.zero_add, World.cell?_of_block (HBe.out.block g10 hg10), rowI_cells HR10.out j (by omega) hn10]
                      first | omega | simp [List.getD_eq_getElem?_getD, List.getElem?_take, hj]) (by omega) HBe.out.size)
                    have HRUN2 : Hid (∀ (v3 : Value) (w3 : World), w3.ownsRow V2.heap.size 3 1 v3 (0 + 0) (([] ++ ids.take 0).flatMap ivc) → (V2.drew.alloc (.cells #[] 3)).grownBy w3 (Value.slice (some ⟨V2.heap.size, 0, none⟩) 0 0).ownBlock → ∃ v4 w4, (Builtin.append_ #[54, 54] 54 #[v3, .slice (some ⟨g10, 0, none⟩) (n - (1)) (cw - (1))]).run Tryz.prog w3 = .ok v4 w4 ∧ w4.ownsRow V2.heap.size 3 1 v4 (n - 1) ((ids.eraseIdx 0).flatMap ivc) ∧ Below V2.heap.size V2 w4) := hide (fun v3 w3 ho3 hg3 => by
                      have hb3 : Below V2.heap.size V2 w3 := HBe.out.trans ((Below.refl _ _).grown hg3 HBe.out.size (fun k hk => Nat.le_of_eq (by simpa [Value.ownBlock] using hk)))
                      obtain ⟨v4, w4, hr4, ho4, hg4⟩ := run_nums (cap := cw - (1)) (l := ids.drop (1)) (len := n - (1)) ⟨g10, 0, none⟩ ho3 (by rw [List.length_drop, hn10]) (fun j hj => by
                        have := HCK.out
                        omega) (by omega) hb3.size
                      refine ⟨v4, w4, hr4, ?_, hb3.trans ((Below.refl _ _).grown hg4 hb3.size (fun k hk => (ho3.lt k hk).1))⟩
                      rw [erase_split]
                      have e : 0 + 0 + (n - (1)) = n - 1 := by omega
                      rw [e] at ho4
                      simpa using ho4)
                    go_wp2_with fail
                    refine wp_region_last 10 (fun W' : World => True) (by kernel_rfl) trivial (fun hHeld => ?_)
                    refine wpAnyL_take (i := 1) (v := ?v1r15) rfl (by kernel_rfl) (fun _ _ _ h => h) (by assumption) (by rfl) ?hy1r15 ?hn1r15
                    case hy1r15 => (intro w hSw; (try dsimp only at hSw); skip; go_simp; try with_reducible rfl)
                    try simp only [Act.put]
                    refine wpAnyL_take (i := 2) (v := ?v2r15) rfl (by kernel_rfl) (fun _ _ _ h => h) (by assumption) (by rfl) ?hy2r15 ?hn2r15
                    case hy2r15 => (intro w hSw; (try dsimp only at hSw); skip; go_simp; try with_reducible rfl)
                    try simp only [Act.put]
                    refine wpAnyL_take (i := 3) (v := ?v3r15) rfl (by kernel_rfl) (fun _ _ _ h => h) (by assumption) (by rfl) ?hy3r15 ?hn3r15
                    case hy3r15 => (intro w hSw; (try dsimp only at hSw); skip; go_simp; try with_reducible rfl)
                    try simp only [Act.put]
                    refine wpAnyL_take (i := 5) (v := ?v5r15) rfl (by kernel_rfl) (fun _ _ _ h => h) (by assumption) (by rfl) ?hy5r15 ?hn5r15
                    case hy5r15 => (intro w hSw; (try dsimp only at hSw); skip; go_simp; try with_reducible rfl)
                    try simp only [Act.put]
                    refine wpAnyL_take (i := 6) (v := ?v6r15) rfl (by kernel_rfl) (fun _ _ _ h => h) (by assumption) (by rfl) ?hy6r15 ?hn6r15
                    case hy6r15 => (intro w hSw; (try dsimp only at hSw); skip; go_simp; try with_reducible rfl)
                    try simp only [Act.put]
                    refine wpAnyL_take (i := 7) (v := ?v7r15) rfl (by kernel_rfl) (fun _ _ _ h => h) (by assumption) (by rfl) ?hy7r15 ?hn7r15
                    case hy7r15 => (intro w hSw; (try dsimp only at hSw); skip; go_simp; try with_reducible rfl)
                    try simp only [Act.put]
                    refine wpAnyL_take (i := 8) (v := ?v8r15) rfl (by kernel_rfl) (fun _ _ _ h => h) (by assumption) (by rfl) ?hy8r15 ?hn8r15
                    case hy8r15 => (intro w hSw; (try dsimp only at hSw); skip; go_simp; try with_reducible rfl)
                    try simp only [Act.put]
                    refine wpAnyL_one (i := 0) rfl (by kernel_rfl) (fun K hK => ?_)
                    go_simp
                    refine hK.out _ _ trivial (fun hHeld => ?_)
                    clear hK K
                    try simp only [Act.put]
                    refine wpAnyL_one (i := 4) rfl (by kernel_rfl) (fun K hK => ?_)
                    obtain ⟨v3, w3, hr3, ho3, hg3⟩ := HRUN1.out
                    have HO3 := hide ho3
                    have HG3 := hide hg3
                    obtain ⟨a3, c3, rfl⟩ := own_form HO3.out
                    refine wp_append_eq _ _ 54 rfl rfl rfl hr3 ?_
                    refine hK.out _ _ trivial (fun hHeld => ?_)
                    clear hK K ho3 hg3 hr3
                    try simp only [Act.put]
                    refine wpAnyL_one (i := 9) rfl (by kernel_rfl) (fun K hK => ?_)
                    obtain ⟨v4, w4, hr4, ho4, hb4⟩ := HRUN2.out _ _ HO3.out HG3.out
                    have HO4 := hide ho4
                    have HB4 := hide hb4
                    obtain ⟨a4, c4, rfl⟩ := own_form HO4.out
                    refine wp_append_eq _ _ 54 rfl rfl rfl hr4 ?_
                    refine hK.out _ _ trivial (fun hHeld => ?_)
                    clear hK K ho4 hb4 hr4
                    try simp only [Act.put]
                    refine wpAnyL_last rfl (by kernel_rfl) (by kernel_rfl) (fun K hK => ?_)
                    go_simp
                    refine hK.out _ _ ?_
                    clear hK K hHeld
                    obtain ⟨X3, hS3⟩ := HS2.out.put10 HB4.out (v' := .slice a4 (n - 1) c4) (ids' := ids.eraseIdx 0) (by
                      unfold RowI
                      rw [List.length_eraseIdx, hn10, if_pos hkn]
                      exact HO4.out)
                    have HS4 := hide hS3
                    have HLE2 : Hid ((ids.eraseIdx 0).length = n - 1) := hide (by rw [List.length_eraseIdx, hn10, if_pos hkn])
                    clear hS3 HB4 HO4 HO3 HG3 HRUN1 HRUN2 HOe HBe HR10 HS2
                    go_wp2
                    go_roundw
                    case rel => exact ⟨i + 1, R0, X3, now2, ids.eraseIdx 0, by have := HNB.out.1; omega, by simp, hide ⟨HS4.out, HCB2.out.1, by rw [HLE2.out]; have := HNB.out.1; omega, by rw [HCB2.out.2.2.2]; exact HNB.out.2.1, by have h1 := HCB2.out.2.2.1; have h2 := HNB.out.2.2.1; omega, HLN2.out, HCB2.out.2.1, HNX.out⟩⟩
                    case measure => simp [slLen]; omega
                · have hcK2 : ¬ (cw : Int) = (1 : Int) := by omega
                  have ct : wr.cell? ⟨g10, 0, none⟩ = some (.int .i64 (ids.getD 0 0)) := rowI_cells HR10.out 0 hkn hn10
                  have HTB : Hid (i64B (ids.getD 0 0)) := hide (by
                    rw [HI.out.2.1.num, List.getD_eq_getElem?_getD, List.getElem?_map]
                    have hkl : 0 < ms.opn.length := by rw [← HI.out.2.1.len, hn10]; exact hkn
                    rw [List.getElem?_eq_getElem hkl]
                    have h1 := HI.out.1.mn.nums.1 _ (List.getElem_mem hkl)
                    have h2 := HI.out.2.2.2.1
                    show i64B (((ms.opn[0]'hkl).1 : Nat) : Int)
                    unfold i64B
                    omega)
                  have HCM := hide (mn_commit X wr g ms HI.out.1.mn (ids.getD 0 0) HTB.out (by have := HI.out.2.2.2.2.1; omega))
                  have HCB := hide (HI.out.2.1.commit HI.out.2.2.2.2.2.2.1 (by have := HI.out.2.2.2.2.1; omega) HI.out.1.mn.nums.2 HI.out.1.mn.srt HI.out.1.mn.few (k := 0) (by rw [hn10]; exact hkn))
                  have HNW := hide (fun h => HI.out.2.2.2.2.2.2.2.commit HI.out.2.2.2.2.2.2.1 HI.out.1.mn.srt (t := ids.getD 0 0) h)
                  have HSP := hide HI.out.2.2.2.2.2.2.2.1
                  have HBS := hide HI.out.1
                  have HNB : Hid (ids.length + i ≤ 16 ∧ ms.last ≤ 16 ∧ ms.now ≤ 1 + i ∧ now.length ≤ 4096 + 256 * i) := hide ⟨HI.out.2.2.1, HI.out.2.2.2.1, HI.out.2.2.2.2.1, HI.out.2.2.2.2.2.1⟩
                  clear HI HTB
                  generalize ids.getD 0 0 = T at *
                  generalize mCommit ms T = R at *
                  obtain ⟨R0, R1, R2, R3⟩ := R
                  dsimp only at HCM HCB HNW
                  go_wp2_with fail
                  refine HCM.out.mono ?_
                  rintro e V1 ⟨vd, rfl, hrow, hM, hF⟩
                  have HS1 := hide (HBS.out.step (hM.mono (fun i hi => .inl hi)) hF)
                  have HRD := hide hrow
                  obtain ⟨ad, cd, rfl⟩ := own_form hrow
                  clear hM hF hrow HCM HBS ct
                  have HBF : Hid (Below w.heap.size w V1) := hide (HB1.out.trans (HS1.out.lo.mono HWB.out))
                  rcases HCB.out.2.1 with hR3 | hR3
                  case inr =>
                    subst hR3
                    go_wp2
                    go_ret
                    exact ⟨rfl, HBF.out⟩
                  case inl =>
                    subst hR3
                    have HNX := hide (HNW.out rfl)
                    have HR9 := hide HS1.out.r9
                    have HIP : Hid (IsP V1 a9 now.length cn now) := hide (by
                      obtain ⟨a', c', e, h, _⟩ := own_isP rfl HR9.out
                      cases e
                      exact h)
                    have HIW : Hid (IsW V1 ad R1.length cd R1) := hide (own_isW rfl HRD.out)
                    have HAL := hide (all_any a9 now.length cn now ad R1.length cd R1 V1 HIP.out (fun h => own_none HR9.out h) HIW.out (by have h1 := HNB.out; have h2 := HCB.out.2.2.2.2.2.1; omega))
                    rw [docA_is R1 HSP.out] at HAL
                    have HLN2 : Hid ((allP now R1).length ≤ 4096 + 256 * (i + 1)) := hide (by have h1 := HNB.out; have h2 := HCB.out.2.2.2.2.2.1; have h3 := allP_len R1 now; omega)
                    have HCB2 : Hid (Bl R0 (ids.eraseIdx 0) ∧ Gd R0 ∧ R0.now ≤ ms.now + 1 ∧ R0.last = ms.last) := hide ⟨HCB.out.1, HCB.out.2.2.1, HCB.out.2.2.2.1, HCB.out.2.2.2.2.1⟩
                    clear HIP HIW HR9 HRD HNW HSP HCB
                    generalize allP now R1 = now2 at *
                    go_wp2_with fail
                    refine HAL.out.mono ?_
                    rintro e V2 ⟨v2, rfl, hr2, hb2⟩
                    obtain ⟨X2, hS2⟩ := HS1.out.put9 hb2 hr2
                    have HS2 := hide hS2
                    clear hr2 hb2 hS2 HAL HS1
                    have HR10 : Hid (V2.ownsRow B 3 1 (.slice (some ⟨g10, 0, none⟩) n cw) n (ids.flatMap ivc)) := hide (by have h := HS2.out.r10; unfold RowI at h; rw [hn10] at h; exact h)
                    have hg10 : g10 < V2.heap.size := (HR10.out.lt g10 rfl).2
                    have HBe : Hid (Below V2.heap.size V2 (V2.drew.alloc (.cells #[] 3))) := hide ((Below.refl _ V2).drew.alloc (Nat.le_refl _) _)
                    have HOe : Hid ((V2.drew.alloc (.cells #[] 3)).ownsRow V2.heap.size 3 1 (.slice (some ⟨V2.heap.size, 0, none⟩) 0 0) 0 (([] : List Int).flatMap ivc)) := hide (World.ownsRow_made V2.drew #[] 0 (Nat.le_refl _) (by decide) rfl)
                    have HRUN1 := hide (run_nums (cap := cw) (l := ids.take 0) (len := 0) ⟨g10, 0, none⟩ HOe.out (by rw [List.length_take, hn10]; omega) (fun j hj => by
                      rw [oadd0, Nat.zero_add, World.cell?_of_block (HBe.out.block g10 hg10), rowI_cells HR10.out j (by omega) hn10]
                      first | omega | simp [List.getD_eq_getElem?_getD, List.getElem?_take, hj]) (by omega) HBe.out.size)
                    have HRUN2 : Hid (∀ (v3 : Value) (w3 : World), w3.ownsRow V2.heap.size 3 1 v3 (0 + 0) (([] ++ ids.take 0).flatMap ivc) → (V2.drew.alloc (.cells #[] 3)).grownBy w3 (Value.slice (some ⟨V2.heap.size, 0, none⟩) 0 0).ownBlock → ∃ v4 w4, (Builtin.append_ #[54, 54] 54 #[v3, .slice (some ⟨g10, 1, none⟩) (n - (1)) (cw - (1))]).run Tryz.prog w3 = .ok v4 w4 ∧ w4.ownsRow V2.heap.size 3 1 v4 (n - 1) ((ids.eraseIdx 0).flatMap ivc) ∧ Below V2.heap.size V2 w4) := hide (fun v3 w3 ho3 hg3 => by
                      have hb3 : Below V2.heap.size V2 w3 := HBe.out.trans ((Below.refl _ _).grown hg3 HBe.out.size (fun k hk => Nat.le_of_eq (by simpa [Value.ownBlock] using hk)))
                      obtain ⟨v4, w4, hr4, ho4, hg4⟩ := run_nums (cap := cw - (1)) (l := ids.drop (1)) (len := n - (1)) ⟨g10, 1, none⟩ ho3 (by rw [List.length_drop, hn10]) (fun j hj => by
                        rw [oadd0]
                        rw [World.cell?_of_block (hb3.block g10 hg10), rowI_cells HR10.out (1 + j) (by omega) hn10]
                        first | (simp [List.getD_eq_getElem?_getD, List.getElem?_drop]; done) | (simp [List.getD_eq_getElem?_getD, List.getElem?_drop, Nat.add_comm]; done)) (by omega) hb3.size
                      refine ⟨v4, w4, hr4, ?_, hb3.trans ((Below.refl _ _).grown hg4 hb3.size (fun k hk => (ho3.lt k hk).1))⟩
                      rw [erase_split]
                      have e : 0 + 0 + (n - (1)) = n - 1 := by omega
                      rw [e] at ho4
                      simpa using ho4)
                    go_wp2_with fail
                    refine wp_region_last 10 (fun W' : World => True) (by kernel_rfl) trivial (fun hHeld => ?_)
                    refine wpAnyL_take (i := 1) (v := ?v1r16) rfl (by kernel_rfl) (fun _ _ _ h => h) (by assumption) (by rfl) ?hy1r16 ?hn1r16
                    case hy1r16 => (intro w hSw; (try dsimp only at hSw); skip; go_simp; try with_reducible rfl)
                    try simp only [Act.put]
                    refine wpAnyL_take (i := 2) (v := ?v2r16) rfl (by kernel_rfl) (fun _ _ _ h => h) (by assumption) (by rfl) ?hy2r16 ?hn2r16
                    case hy2r16 => (intro w hSw; (try dsimp only at hSw); skip; go_simp; try with_reducible rfl)
                    try simp only [Act.put]
                    refine wpAnyL_take (i := 3) (v := ?v3r16) rfl (by kernel_rfl) (fun _ _ _ h => h) (by assumption) (by rfl) ?hy3r16 ?hn3r16
                    case hy3r16 => (intro w hSw; (try dsimp only at hSw); skip; go_simp; try with_reducible rfl)
                    try simp only [Act.put]
                    refine wpAnyL_take (i := 5) (v := ?v5r16) rfl (by kernel_rfl) (fun _ _ _ h => h) (by assumption) (by rfl) ?hy5r16 ?hn5r16
                    case hy5r16 => (intro w hSw; (try dsimp only at hSw); skip; go_simp; try with_reducible rfl)
                    try simp only [Act.put]
                    refine wpAnyL_take (i := 6) (v := ?v6r16) rfl (by kernel_rfl) (fun _ _ _ h => h) (by assumption) (by rfl) ?hy6r16 ?hn6r16
                    case hy6r16 => (intro w hSw; (try dsimp only at hSw); skip; go_simp; try with_reducible rfl)
                    try simp only [Act.put]
                    refine wpAnyL_take (i := 7) (v := ?v7r16) rfl (by kernel_rfl) (fun _ _ _ h => h) (by assumption) (by rfl) ?hy7r16 ?hn7r16
                    case hy7r16 => (intro w hSw; (try dsimp only at hSw); skip; go_simp; try with_reducible rfl)
                    try simp only [Act.put]
                    refine wpAnyL_take (i := 8) (v := ?v8r16) rfl (by kernel_rfl) (fun _ _ _ h => h) (by assumption) (by rfl) ?hy8r16 ?hn8r16
                    case hy8r16 => (intro w hSw; (try dsimp only at hSw); skip; go_simp; try with_reducible rfl)
                    try simp only [Act.put]
                    refine wpAnyL_one (i := 0) rfl (by kernel_rfl) (fun K hK => ?_)
                    go_simp
                    refine hK.out _ _ trivial (fun hHeld => ?_)
                    clear hK K
                    try simp only [Act.put]
                    refine wpAnyL_one (i := 4) rfl (by kernel_rfl) (fun K hK => ?_)
                    obtain ⟨v3, w3, hr3, ho3, hg3⟩ := HRUN1.out
                    have HO3 := hide ho3
                    have HG3 := hide hg3
                    obtain ⟨a3, c3, rfl⟩ := own_form HO3.out
                    refine wp_append_eq _ _ 54 rfl rfl rfl hr3 ?_
                    refine hK.out _ _ trivial (fun hHeld => ?_)
                    clear hK K ho3 hg3 hr3
                    try simp only [Act.put]
                    refine wpAnyL_one (i := 9) rfl (by kernel_rfl) (fun K hK => ?_)
                    obtain ⟨v4, w4, hr4, ho4, hb4⟩ := HRUN2.out _ _ HO3.out HG3.out
                    have HO4 := hide ho4
                    have HB4 := hide hb4
                    obtain ⟨a4, c4, rfl⟩ := own_form HO4.out
                    refine wp_append_eq _ _ 54 rfl rfl rfl hr4 ?_
                    refine hK.out _ _ trivial (fun hHeld => ?_)
                    clear hK K ho4 hb4 hr4
                    try simp only [Act.put]
                    refine wpAnyL_last rfl (by kernel_rfl) (by kernel_rfl) (fun K hK => ?_)
                    go_simp
                    refine hK.out _ _ ?_
                    clear hK K hHeld
                    obtain ⟨X3, hS3⟩ := HS2.out.put10 HB4.out (v' := .slice a4 (n - 1) c4) (ids' := ids.eraseIdx 0) (by
                      unfold RowI
                      rw [List.length_eraseIdx, hn10, if_pos hkn]
                      exact HO4.out)
                    have HS4 := hide hS3
                    have HLE2 : Hid ((ids.eraseIdx 0).length = n - 1) := hide (by rw [List.length_eraseIdx, hn10, if_pos hkn])
                    clear hS3 HB4 HO4 HO3 HG3 HRUN1 HRUN2 HOe HBe HR10 HS2
                    go_wp2
                    go_roundw
                    case rel => exact ⟨i + 1, R0, X3, now2, ids.eraseIdx 0, by have := HNB.out.1; omega, by simp, hide ⟨HS4.out, HCB2.out.1, by rw [HLE2.out]; have := HNB.out.1; omega, by rw [HCB2.out.2.2.2]; exact HNB.out.2.1, by have h1 := HCB2.out.2.2.1; have h2 := HNB.out.2.2.1; omega, HLN2.out, HCB2.out.2.1, HNX.out⟩⟩
                    case measure => simp [slLen]; omega
            · have hiO : ¬ (i : Int) < (on : Int) := by omega
              clear HOb
              have hkn : 0 < n := by omega
              have hKn : (0 : Int) < (n : Int) := by omega
              have hKc : (0 : Int) ≤ (cw : Int) := by omega
              have hKc1 : (1 : Int) ≤ (cw : Int) := by omega
              have hKn1 : (1 : Int) ≤ (n : Int) := by omega
              have hKw : IntKind.i64.wrap (1 : Int) = 1 := wr64' (by omega) (by omega)
              by_cases hcK : cw = 1
              · have HCK := hide hcK
                have hcK1 : (cw = 1) = True := eq_true hcK
                clear hcK
                have ct : wr.cell? ⟨g10, 0, none⟩ = some (.int .i64 (ids.getD 0 0)) := rowI_cells HR10.out 0 hkn hn10
                have HTB : Hid (i64B (ids.getD 0 0)) := hide (by
                  rw [HI.out.2.1.num, List.getD_eq_getElem?_getD, List.getElem?_map]
                  have hkl : 0 < ms.opn.length := by rw [← HI.out.2.1.len, hn10]; exact hkn
                  rw [List.getElem?_eq_getElem hkl]
                  have h1 := HI.out.1.mn.nums.1 _ (List.getElem_mem hkl)
                  have h2 := HI.out.2.2.2.1
                  show i64B (((ms.opn[0]'hkl).1 : Nat) : Int)
                  unfold i64B
                  omega)
                have HCM := hide (mn_commit X wr g ms HI.out.1.mn (ids.getD 0 0) HTB.out (by have := HI.out.2.2.2.2.1; omega))
                have HCB := hide (HI.out.2.1.commit HI.out.2.2.2.2.2.2.1 (by have := HI.out.2.2.2.2.1; omega) HI.out.1.mn.nums.2 HI.out.1.mn.srt HI.out.1.mn.few (k := 0) (by rw [hn10]; exact hkn))
                have HNW := hide (fun h => HI.out.2.2.2.2.2.2.2.commit HI.out.2.2.2.2.2.2.1 HI.out.1.mn.srt (t := ids.getD 0 0) h)
                have HSP := hide HI.out.2.2.2.2.2.2.2.1
                have HBS := hide HI.out.1
                have HNB : Hid (ids.length + i ≤ 16 ∧ ms.last ≤ 16 ∧ ms.now ≤ 1 + i ∧ now.length ≤ 4096 + 256 * i) := hide ⟨HI.out.2.2.1, HI.out.2.2.2.1, HI.out.2.2.2.2.1, HI.out.2.2.2.2.2.1⟩
                clear HI HTB
                generalize ids.getD 0 0 = T at *
                generalize mCommit ms T = R at *
                obtain ⟨R0, R1, R2, R3⟩ := R
                dsimp only at HCM HCB HNW
                go_wp2_with fail
                refine HCM.out.mono ?_
                rintro e V1 ⟨vd, rfl, hrow, hM, hF⟩
                have HS1 := hide (HBS.out.step (hM.mono (fun i hi => .inl hi)) hF)
                have HRD := hide hrow
                obtain ⟨ad, cd, rfl⟩ := own_form hrow
                clear hM hF hrow HCM HBS ct
                have HBF : Hid (Below w.heap.size w V1) := hide (HB1.out.trans (HS1.out.lo.mono HWB.out))
                rcases HCB.out.2.1 with hR3 | hR3
                case inr =>
                  subst hR3
                  go_wp2
                  go_ret
                  exact ⟨rfl, HBF.out⟩
                case inl =>
                  subst hR3
                  have HNX := hide (HNW.out rfl)
                  have HR9 := hide HS1.out.r9
                  have HIP : Hid (IsP V1 a9 now.length cn now) := hide (by
                    obtain ⟨a', c', e, h, _⟩ := own_isP rfl HR9.out
                    cases e
                    exact h)
                  have HIW : Hid (IsW V1 ad R1.length cd R1) := hide (own_isW rfl HRD.out)
                  have HAL := hide (all_any a9 now.length cn now ad R1.length cd R1 V1 HIP.out (fun h => own_none HR9.out h) HIW.out (by have h1 := HNB.out; have h2 := HCB.out.2.2.2.2.2.1; omega))
                  rw [docA_is R1 HSP.out] at HAL
                  have HLN2 : Hid ((allP now R1).length ≤ 4096 + 256 * (i + 1)) := hide (by have h1 := HNB.out; have h2 := HCB.out.2.2.2.2.2.1; have h3 := allP_len R1 now; omega)
                  have HCB2 : Hid (Bl R0 (ids.eraseIdx 0) ∧ Gd R0 ∧ R0.now ≤ ms.now + 1 ∧ R0.last = ms.last) := hide ⟨HCB.out.1, HCB.out.2.2.1, HCB.out.2.2.2.1, HCB.out.2.2.2.2.1⟩
                  clear HIP HIW HR9 HRD HNW HSP HCB
                  generalize allP now R1 = now2 at *
                  go_wp2_with fail
                  refine HAL.out.mono ?_
                  rintro e V2 ⟨v2, rfl, hr2, hb2⟩
                  obtain ⟨X2, hS2⟩ := HS1.out.put9 hb2 hr2
                  have HS2 := hide hS2
                  clear hr2 hb2 hS2 HAL HS1
                  have HR10 : Hid (V2.ownsRow B 3 1 (.slice (some ⟨g10, 0, none⟩) n cw) n (ids.flatMap ivc)) := hide (by have h := HS2.out.r10; unfold RowI at h; rw [hn10] at h; exact h)
                  have hg10 : g10 < V2.heap.size := (HR10.out.lt g10 rfl).2
                  have HBe : Hid (Below V2.heap.size V2 (V2.drew.alloc (.cells #[] 3))) := hide ((Below.refl _ V2).drew.alloc (Nat.le_refl _) _)
                  have HOe : Hid ((V2.drew.alloc (.cells #[] 3)).ownsRow V2.heap.size 3 1 (.slice (some ⟨V2.heap.size, 0, none⟩) 0 0) 0 (([] : List Int).flatMap ivc)) := hide (World.ownsRow_made V2.drew #[] 0 (Nat.le_refl _) (by decide) rfl)
                  have HRUN1 := hide (run_nums (cap := cw) (l := ids.take 0) (len := 0) ⟨g10, 0, none⟩ HOe.out (by rw [List.length_take, hn10]; omega) (fun j hj => by
                    rw [oadd0, Nat.zero_add, World.cell?_of_block (HBe.out.block g10 hg10), rowI_cells HR10.out j (by omega) hn10]
                    first | omega | simp [List.getD_eq_getElem?_getD, List.getElem?_take, hj]) (by omega) HBe.out.size)
                  have HRUN2 : Hid (∀ (v3 : Value) (w3 : World), w3.ownsRow V2.heap.size 3 1 v3 (0 + 0) (([] ++ ids.take 0).flatMap ivc) → (V2.drew.alloc (.cells #[] 3)).grownBy w3 (Value.slice (some ⟨V2.heap.size, 0, none⟩) 0 0).ownBlock → ∃ v4 w4, (Builtin.append_ #[54, 54] 54 #[v3, .slice (some ⟨g10, 0, none⟩) (n - (1)) (cw - (1))]).run Tryz.prog w3 = .ok v4 w4 ∧ w4.ownsRow V2.heap.size 3 1 v4 (n - 1) ((ids.eraseIdx 0).flatMap ivc) ∧ Below V2.heap.size V2 w4) := hide (fun v3 w3 ho3 hg3 => by
                    have hb3 : Below V2.heap.size V2 w3 := HBe.out.trans ((Below.refl _ _).grown hg3 HBe.out.size (fun k hk => Nat.le_of_eq (by simpa [Value.ownBlock] using hk)))
                    obtain ⟨v4, w4, hr4, ho4, hg4⟩ := run_nums (cap := cw - (1)) (l := ids.drop (1)) (len := n - (1)) ⟨g10, 0, none⟩ ho3 (by rw [List.length_drop, hn10]) (fun j hj => by
                      have := HCK.out
                      omega) (by omega) hb3.size
                    refine ⟨v4, w4, hr4, ?_, hb3.trans ((Below.refl _ _).grown hg4 hb3.size (fun k hk => (ho3.lt k hk).1))⟩
                    rw [erase_split]
                    have e : 0 + 0 + (n - (1)) = n - 1 := by omega
                    rw [e] at ho4
                    simpa using ho4)
                  go_wp2_with fail
                  refine wp_region_last 10 (fun W' : World => True) (by kernel_rfl) trivial (fun hHeld => ?_)
                  refine wpAnyL_take (i := 1) (v := ?v1r17) rfl (by kernel_rfl) (fun _ _ _ h => h) (by assumption) (by rfl) ?hy1r17 ?hn1r17
                  case hy1r17 => (intro w hSw; (try dsimp only at hSw); skip; go_simp; try with_reducible rfl)
                  try simp only [Act.put]
                  refine wpAnyL_take (i := 2) (v := ?v2r17) rfl (by kernel_rfl) (fun _ _ _ h => h) (by assumption) (by rfl) ?hy2r17 ?hn2r17
                  case hy2r17 => (intro w hSw; (try dsimp only at hSw); skip; go_simp; try with_reducible rfl)
                  try simp only [Act.put]
                  refine wpAnyL_take (i := 3) (v := ?v3r17) rfl (by kernel_rfl) (fun _ _ _ h => h) (by assumption) (by rfl) ?hy3r17 ?hn3r17
                  case hy3r17 => (intro w hSw; (try dsimp only at hSw); skip; go_simp; try with_reducible rfl)
                  try simp only [Act.put]
                  refine wpAnyL_take (i := 5) (v := ?v5r17) rfl (by kernel_rfl) (fun _ _ _ h => h) (by assumption) (by rfl) ?hy5r17 ?hn5r17
                  case hy5r17 => (intro w hSw; (try dsimp only at hSw); skip; go_simp; try with_reducible rfl)
                  try simp only [Act.put]
                  refine wpAnyL_take (i := 6) (v := ?v6r17) rfl (by kernel_rfl) (fun _ _ _ h => h) (by assumption) (by rfl) ?hy6r17 ?hn6r17
                  case hy6r17 => (intro w hSw; (try dsimp only at hSw); skip; go_simp; try with_reducible rfl)
                  try simp only [Act.put]
                  refine wpAnyL_take (i := 7) (v := ?v7r17) rfl (by kernel_rfl) (fun _ _ _ h => h) (by assumption) (by rfl) ?hy7r17 ?hn7r17
                  case hy7r17 => (intro w hSw; (try dsimp only at hSw); skip; go_simp; try with_reducible rfl)
                  try simp only [Act.put]
                  refine wpAnyL_take (i := 8) (v := ?v8r17) rfl (by kernel_rfl) (fun _ _ _ h => h) (by assumption) (by rfl) ?hy8r17 ?hn8r17
                  case hy8r17 => (intro w hSw; (try dsimp only at hSw); skip; go_simp; try with_reducible rfl)
                  try simp only [Act.put]
                  refine wpAnyL_one (i := 0) rfl (by kernel_rfl) (fun K hK => ?_)
                  go_simp
                  refine hK.out _ _ trivial (fun hHeld => ?_)
                  clear hK K
                  try simp only [Act.put]
                  refine wpAnyL_one (i := 4) rfl (by kernel_rfl) (fun K hK => ?_)
                  obtain ⟨v3, w3, hr3, ho3, hg3⟩ := HRUN1.out
                  have HO3 := hide ho3
                  have HG3 := hide hg3
                  obtain ⟨a3, c3, rfl⟩ := own_form HO3.out
                  refine wp_append_eq _ _ 54 rfl rfl rfl hr3 ?_
                  refine hK.out _ _ trivial (fun hHeld => ?_)
                  clear hK K ho3 hg3 hr3
                  try simp only [Act.put]
                  refine wpAnyL_one (i := 9) rfl (by kernel_rfl) (fun K hK => ?_)
                  obtain ⟨v4, w4, hr4, ho4, hb4⟩ := HRUN2.out _ _ HO3.out HG3.out
                  have HO4 := hide ho4
                  have HB4 := hide hb4
                  obtain ⟨a4, c4, rfl⟩ := own_form HO4.out
                  refine wp_append_eq _ _ 54 rfl rfl rfl hr4 ?_
                  refine hK.out _ _ trivial (fun hHeld => ?_)
                  clear hK K ho4 hb4 hr4
                  try simp only [Act.put]
                  refine wpAnyL_last rfl (by kernel_rfl) (by kernel_rfl) (fun K hK => ?_)
                  go_simp
                  refine hK.out _ _ ?_
                  clear hK K hHeld
                  obtain ⟨X3, hS3⟩ := HS2.out.put10 HB4.out (v' := .slice a4 (n - 1) c4) (ids' := ids.eraseIdx 0) (by
                    unfold RowI
                    rw [List.length_eraseIdx, hn10, if_pos hkn]
                    exact HO4.out)
                  have HS4 := hide hS3
                  have HLE2 : Hid ((ids.eraseIdx 0).length = n - 1) := hide (by rw [List.length_eraseIdx, hn10, if_pos hkn])
                  clear hS3 HB4 HO4 HO3 HG3 HRUN1 HRUN2 HOe HBe HR10 HS2
                  go_wp2
                  go_roundw
                  case rel => exact ⟨i + 1, R0, X3, now2, ids.eraseIdx 0, by have := HNB.out.1; omega, by simp, hide ⟨HS4.out, HCB2.out.1, by rw [HLE2.out]; have := HNB.out.1; omega, by rw [HCB2.out.2.2.2]; exact HNB.out.2.1, by have h1 := HCB2.out.2.2.1; have h2 := HNB.out.2.2.1; omega, HLN2.out, HCB2.out.2.1, HNX.out⟩⟩
                  case measure => simp [slLen]; omega
              · have hcK2 : ¬ (cw : Int) = (1 : Int) := by omega
                have ct : wr.cell? ⟨g10, 0, none⟩ = some (.int .i64 (ids.getD 0 0)) := rowI_cells HR10.out 0 hkn hn10
                have HTB : Hid (i64B (ids.getD 0 0)) := hide (by
                  rw [HI.out.2.1.num, List.getD_eq_getElem?_getD, List.getElem?_map]
                  have hkl : 0 < ms.opn.length := by rw [← HI.out.2.1.len, hn10]; exact hkn
                  rw [List.getElem?_eq_getElem hkl]
                  have h1 := HI.out.1.mn.nums.1 _ (List.getElem_mem hkl)
                  have h2 := HI.out.2.2.2.1
                  show i64B (((ms.opn[0]'hkl).1 : Nat) : Int)
                  unfold i64B
                  omega)
                have HCM := hide (mn_commit X wr g ms HI.out.1.mn (ids.getD 0 0) HTB.out (by have := HI.out.2.2.2.2.1; omega))
                have HCB := hide (HI.out.2.1.commit HI.out.2.2.2.2.2.2.1 (by have := HI.out.2.2.2.2.1; omega) HI.out.1.mn.nums.2 HI.out.1.mn.srt HI.out.1.mn.few (k := 0) (by rw [hn10]; exact hkn))
                have HNW := hide (fun h => HI.out.2.2.2.2.2.2.2.commit HI.out.2.2.2.2.2.2.1 HI.out.1.mn.srt (t := ids.getD 0 0) h)
                have HSP := hide HI.out.2.2.2.2.2.2.2.1
                have HBS := hide HI.out.1
                have HNB : Hid (ids.length + i ≤ 16 ∧ ms.last ≤ 16 ∧ ms.now ≤ 1 + i ∧ now.length ≤ 4096 + 256 * i) := hide ⟨HI.out.2.2.1, HI.out.2.2.2.1, HI.out.2.2.2.2.1, HI.out.2.2.2.2.2.1⟩
                clear HI HTB
                generalize ids.getD 0 0 = T at *
                generalize mCommit ms T = R at *
                obtain ⟨R0, R1, R2, R3⟩ := R
                dsimp only at HCM HCB HNW
                go_wp2_with fail
                refine HCM.out.mono ?_
                rintro e V1 ⟨vd, rfl, hrow, hM, hF⟩
                have HS1 := hide (HBS.out.step (hM.mono (fun i hi => .inl hi)) hF)
                have HRD := hide hrow
                obtain ⟨ad, cd, rfl⟩ := own_form hrow
                clear hM hF hrow HCM HBS ct
                have HBF : Hid (Below w.heap.size w V1) := hide (HB1.out.trans (HS1.out.lo.mono HWB.out))
                rcases HCB.out.2.1 with hR3 | hR3
                case inr =>
                  subst hR3
                  go_wp2
                  go_ret
                  exact ⟨rfl, HBF.out⟩
                case inl =>
                  subst hR3
                  have HNX := hide (HNW.out rfl)
                  have HR9 := hide HS1.out.r9
                  have HIP : Hid (IsP V1 a9 now.length cn now) := hide (by
                    obtain ⟨a', c', e, h, _⟩ := own_isP rfl HR9.out
                    cases e
                    exact h)
                  have HIW : Hid (IsW V1 ad R1.length cd R1) := hide (own_isW rfl HRD.out)
                  have HAL := hide (all_any a9 now.length cn now ad R1.length cd R1 V1 HIP.out (fun h => own_none HR9.out h) HIW.out (by have h1 := HNB.out; have h2 := HCB.out.2.2.2.2.2.1; omega))
                  rw [docA_is R1 HSP.out] at HAL
                  have HLN2 : Hid ((allP now R1).length ≤ 4096 + 256 * (i + 1)) := hide (by have h1 := HNB.out; have h2 := HCB.out.2.2.2.2.2.1; have h3 := allP_len R1 now; omega)
                  have HCB2 : Hid (Bl R0 (ids.eraseIdx 0) ∧ Gd R0 ∧ R0.now ≤ ms.now + 1 ∧ R0.last = ms.last) := hide ⟨HCB.out.1, HCB.out.2.2.1, HCB.out.2.2.2.1, HCB.out.2.2.2.2.1⟩
                  clear HIP HIW HR9 HRD HNW HSP HCB
                  generalize allP now R1 = now2 at *
                  go_wp2_with fail
                  refine HAL.out.mono ?_
                  rintro e V2 ⟨v2, rfl, hr2, hb2⟩
                  obtain ⟨X2, hS2⟩ := HS1.out.put9 hb2 hr2
                  have HS2 := hide hS2
                  clear hr2 hb2 hS2 HAL HS1
                  have HR10 : Hid (V2.ownsRow B 3 1 (.slice (some ⟨g10, 0, none⟩) n cw) n (ids.flatMap ivc)) := hide (by have h := HS2.out.r10; unfold RowI at h; rw [hn10] at h; exact h)
                  have hg10 : g10 < V2.heap.size := (HR10.out.lt g10 rfl).2
                  have HBe : Hid (Below V2.heap.size V2 (V2.drew.alloc (.cells #[] 3))) := hide ((Below.refl _ V2).drew.alloc (Nat.le_refl _) _)
                  have HOe : Hid ((V2.drew.alloc (.cells #[] 3)).ownsRow V2.heap.size 3 1 (.slice (some ⟨V2.heap.size, 0, none⟩) 0 0) 0 (([] : List Int).flatMap ivc)) := hide (World.ownsRow_made V2.drew #[] 0 (Nat.le_refl _) (by decide) rfl)
                  have HRUN1 := hide (run_nums (cap := cw) (l := ids.take 0) (len := 0) ⟨g10, 0, none⟩ HOe.out (by rw [List.length_take, hn10]; omega) (fun j hj => by
                    rw [oadd0, Nat.zero_add, World.cell?_of_block (HBe.out.block g10 hg10), rowI_cells HR10.out j (by omega) hn10]
                    first | omega | simp [List.getD_eq_getElem?_getD, List.getElem?_take, hj]) (by omega) HBe.out.size)
                  have HRUN2 : Hid (∀ (v3 : Value) (w3 : World), w3.ownsRow V2.heap.size 3 1 v3 (0 + 0) (([] ++ ids.take 0).flatMap ivc) → (V2.drew.alloc (.cells #[] 3)).grownBy w3 (Value.slice (some ⟨V2.heap.size, 0, none⟩) 0 0).ownBlock → ∃ v4 w4, (Builtin.append_ #[54, 54] 54 #[v3, .slice (some ⟨g10, 1, none⟩) (n - (1)) (cw - (1))]).run Tryz.prog w3 = .ok v4 w4 ∧ w4.ownsRow V2.heap.size 3 1 v4 (n - 1) ((ids.eraseIdx 0).flatMap ivc) ∧ Below V2.heap.size V2 w4) := hide (fun v3 w3 ho3 hg3 => by
                    have hb3 : Below V2.heap.size V2 w3 := HBe.out.trans ((Below.refl _ _).grown hg3 HBe.out.size (fun k hk => Nat.le_of_eq (by simpa [Value.ownBlock] using hk)))
                    obtain ⟨v4, w4, hr4, ho4, hg4⟩ := run_nums (cap := cw - (1)) (l := ids.drop (1)) (len := n - (1)) ⟨g10, 1, none⟩ ho3 (by rw [List.length_drop, hn10]) (fun j hj => by
                      rw [oadd0]
                      rw [World.cell?_of_block (hb3.block g10 hg10), rowI_cells HR10.out (1 + j) (by omega) hn10]
                      first | (simp [List.getD_eq_getElem?_getD, List.getElem?_drop]; done) | (simp [List.getD_eq_getElem?_getD, List.getElem?_drop, Nat.add_comm]; done)) (by omega) hb3.size
                    refine ⟨v4, w4, hr4, ?_, hb3.trans ((Below.refl _ _).grown hg4 hb3.size (fun k hk => (ho3.lt k hk).1))⟩
                    rw [erase_split]
                    have e : 0 + 0 + (n - (1)) = n - 1 := by omega
                    rw [e] at ho4
                    simpa using ho4)
                  go_wp2_with fail
                  refine wp_region_last 10 (fun W' : World => True) (by kernel_rfl) trivial (fun hHeld => ?_)
                  refine wpAnyL_take (i := 1) (v := ?v1r18) rfl (by kernel_rfl) (fun _ _ _ h => h) (by assumption) (by rfl) ?hy1r18 ?hn1r18
                  case hy1r18 => (intro w hSw; (try dsimp only at hSw); skip; go_simp; try with_reducible rfl)
                  try simp only [Act.put]
                  refine wpAnyL_take (i := 2) (v := ?v2r18) rfl (by kernel_rfl) (fun _ _ _ h => h) (by assumption) (by rfl) ?hy2r18 ?hn2r18
                  case hy2r18 => (intro w hSw; (try dsimp only at hSw); skip; go_simp; try with_reducible rfl)
                  try simp only [Act.put]
                  refine wpAnyL_take (i := 3) (v := ?v3r18) rfl (by kernel_rfl) (fun _ _ _ h => h) (by assumption) (by rfl) ?hy3r18 ?hn3r18
                  case hy3r18 => (intro w hSw; (try dsimp only at hSw); skip; go_simp; try with_reducible rfl)
                  try simp only [Act.put]
                  refine wpAnyL_take (i := 5) (v := ?v5r18) rfl (by kernel_rfl) (fun _ _ _ h => h) (by assumption) (by rfl) ?hy5r18 ?hn5r18
                  case hy5r18 => (intro w hSw; (try dsimp only at hSw); skip; go_simp; try with_reducible rfl)
                  try simp only [Act.put]
                  refine wpAnyL_take (i := 6) (v := ?v6r18) rfl (by kernel_rfl) (fun _ _ _ h => h) (by assumption) (by rfl) ?hy6r18 ?hn6r18
                  case hy6r18 => (intro w hSw; (try dsimp only at hSw); skip; go_simp; try with_reducible rfl)
                  try simp only [Act.put]
                  refine wpAnyL_take (i := 7) (v := ?v7r18) rfl (by kernel_rfl) (fun _ _ _ h => h) (by assumption) (by rfl) ?hy7r18 ?hn7r18
                  case hy7r18 => (intro w hSw; (try dsimp only at hSw); skip; go_simp; try with_reducible rfl)
                  try simp only [Act.put]
                  refine wpAnyL_take (i := 8) (v := ?v8r18) rfl (by kernel_rfl) (fun _ _ _ h => h) (by assumption) (by rfl) ?hy8r18 ?hn8r18
                  case hy8r18 => (intro w hSw; (try dsimp only at hSw); skip; go_simp; try with_reducible rfl)
                  try simp only [Act.put]
                  refine wpAnyL_one (i := 0) rfl (by kernel_rfl) (fun K hK => ?_)
                  go_simp
                  refine hK.out _ _ trivial (fun hHeld => ?_)
                  clear hK K
                  try simp only [Act.put]
                  refine wpAnyL_one (i := 4) rfl (by kernel_rfl) (fun K hK => ?_)
                  obtain ⟨v3, w3, hr3, ho3, hg3⟩ := HRUN1.out
                  have HO3 := hide ho3
                  have HG3 := hide hg3
                  obtain ⟨a3, c3, rfl⟩ := own_form HO3.out
                  refine wp_append_eq _ _ 54 rfl rfl rfl hr3 ?_
                  refine hK.out _ _ trivial (fun hHeld => ?_)
                  clear hK K ho3 hg3 hr3
                  try simp only [Act.put]
                  refine wpAnyL_one (i := 9) rfl (by kernel_rfl) (fun K hK => ?_)
                  obtain ⟨v4, w4, hr4, ho4, hb4⟩ := HRUN2.out _ _ HO3.out HG3.out
                  have HO4 := hide ho4
                  have HB4 := hide hb4
                  obtain ⟨a4, c4, rfl⟩ := own_form HO4.out
                  refine wp_append_eq _ _ 54 rfl rfl rfl hr4 ?_
                  refine hK.out _ _ trivial (fun hHeld => ?_)
                  clear hK K ho4 hb4 hr4
                  try simp only [Act.put]
                  refine wpAnyL_last rfl (by kernel_rfl) (by kernel_rfl) (fun K hK => ?_)
                  go_simp
                  refine hK.out _ _ ?_
                  clear hK K hHeld
                  obtain ⟨X3, hS3⟩ := HS2.out.put10 HB4.out (v' := .slice a4 (n - 1) c4) (ids' := ids.eraseIdx 0) (by
                    unfold RowI
                    rw [List.length_eraseIdx, hn10, if_pos hkn]
                    exact HO4.out)
                  have HS4 := hide hS3
                  have HLE2 : Hid ((ids.eraseIdx 0).length = n - 1) := hide (by rw [List.length_eraseIdx, hn10, if_pos hkn])
                  clear hS3 HB4 HO4 HO3 HG3 HRUN1 HRUN2 HOe HBe HR10 HS2
                  go_wp2
                  go_roundw
                  case rel => exact ⟨i + 1, R0, X3, now2, ids.eraseIdx 0, by have := HNB.out.1; omega, by simp, hide ⟨HS4.out, HCB2.out.1, by rw [HLE2.out]; have := HNB.out.1; omega, by rw [HCB2.out.2.2.2]; exact HNB.out.2.1, by have h1 := HCB2.out.2.2.1; have h2 := HNB.out.2.2.1; omega, HLN2.out, HCB2.out.2.1, HNX.out⟩⟩
                  case measure => simp [slLen]; omega
end Go.Proofs.YtlkmcbelmldleaaGreat

/- TopSold: the walk -/
import Derived.Test.YtffhkljegopjmaaDoorMa
import Derived.Test.YtffhkljegopjmaaDoorMb
import Derived.Test.YtffhkljegopjmaaDoorTo
import Derived.Test.YtffhkljegopjmaaDoorKK
import Derived.Test.YtffhkljegopjmaaDoorTB
namespace Go.Proofs.YtffhkljegopjmaaDoor
open Go.RowKit
/-- a block has a line -/
def BlkL (w : World) (g : Nat) (x : Ln) : Prop := w.heap[g]? = some (.cells #[.int .i64 x.it, .int .i64 x.wa, .int .i64 x.q, .int .i64 x.un] 41 (0, 0))
theorem BlkL.below {n : Nat} {w w' : World} {g : Nat} {x : Ln} (h : BlkL w g x) (hn : g < n) (hb : Below n w w') : BlkL w' g x := (hb.block g hn).trans h
theorem BlkL.cells {w : World} {g : Nat} {x : Ln} (h : BlkL w g x) : w.cell? ⟨g, 0, none⟩ = some (.int .i64 x.it) ∧ w.cell? ⟨g, 1, none⟩ = some (.int .i64 x.wa) ∧ w.cell? ⟨g, 2, none⟩ = some (.int .i64 x.q) ∧ w.cell? ⟨g, 3, none⟩ = some (.int .i64 x.un) := ⟨cell_blk h rfl, cell_blk h rfl, cell_blk h rfl, cell_blk h rfl⟩
theorem many_take (xs : List Ln) (j : Nat) (h : j < xs.length) (i w : Int) : many (xs.take (j + 1)) i w = many (xs.take j) i w + (if (xs.getD j Ln0).it = i ∧ (xs.getD j Ln0).wa = w then (xs.getD j Ln0).q else 0) := by
  unfold many
  rw [List.take_succ_eq_append_getElem h, List.map_append, List.sum_append, List.getD_eq_getElem?_getD, List.getElem?_eq_getElem h]
  simp
theorem many_le {xs : List Ln} (h : ∀ x ∈ xs, 1 ≤ x.q) (j : Nat) (i w : Int) : 0 ≤ many (xs.take j) i w ∧ many (xs.take j) i w ≤ many xs i w := by
  refine ⟨many_pos (fun x hx => h x (List.mem_of_mem_take hx)) i w, ?_⟩
  have e : many xs i w = many (xs.take j) i w + many (xs.drop j) i w := by
    unfold many
    rw [← List.sum_append, ← List.map_append, List.take_append_drop]
  have := many_pos (xs := xs.drop j) (fun x hx => h x (List.mem_of_mem_drop hx)) i w
  omega
theorem cellR_is {l : List Cl} (h : Good l) {i w : Int} (hp : placeB i w = true) : cellR l i w = (cellOf l i w, 0) := by
  unfold cellR
  rw [if_pos (checkE_zero.2 h), if_pos hp]
set_option maxRecDepth 40000 in
set_option maxHeartbeats 16000000 in
theorem soldWalk (a : Option Addr) (len cap : Nat) (l : List Cl) (b : Option Addr) (ln lc : Nat) (xs : List Ln) (n : Int) (w : World) (hT : POW w) (h : IsC w a len cap l) (hbig : len * 48 ≤ 140737488355328) (hx : IsL w b ln lc xs) (hxb : ln * 32 ≤ 140737488355328) (_hn : i64B n) :
    Calls Tryd.prog 3 #[.slice a len cap, .slice b ln lc, .int .i64 n] w fun e w' => e = .returned (.bool true) ∧ Below w.heap.size w w' := by
  have HC := hide h
  have HX := hide hx
  have HBG := hide (begins_any w hT)
  have HBIG := hide hbig
  have HXN := hide hx.1
  have hxc := hx.2.1
  have hxm : lc ≤ 9223372036854775807 := hx.2.2.1
  have hac := h.2.1
  have ham : cap ≤ 9223372036854775807 := h.2.2.1
  have HLN := hide h.1
  have HXB := hide hxb
  have HBw := hide (Below.refl w.heap.size w)
  clear h hx hT hbig hxb
  go_enter Tryd.func3, Tryd.ntmps3
  refine wp_seq_k (fun K0 hK0 => ?_)
  have HK0 := hide hK0
  clear hK0
  go_wp2
  refine HK0.out _ _ ?_
  clear HK0
  refine wp_seq_k (fun K1 hK1 => ?_)
  have HK1 := hide hK1
  clear hK1
  go_wp2_with fail
  refine (HBG.out).mono ?_
  rintro e w1 ⟨rfl, hb⟩
  clear HBG
  have HC_c1 := hide (HC.out.below' hb)
  have HX_c1 := hide (HX.out.below' hb)
  have HBw_c1 := hide (HBw.out.trans (hb.mono HBw.out.size))
  clear HC HX HBw hb
  go_wp2
  refine HK1.out _ _ ?_
  clear HK1
  refine wp_seq_k (fun K2 hK2 => ?_)
  have HK2 := hide hK2
  clear hK2
  have HCK := hide (check_any a len cap l w1 HC_c1.out)
  rcases checkE_cases l with ⟨hg, he⟩ | ⟨_, he⟩
  · rw [he] at HCK
    clear he
    go_wp2_with fail
    refine (HCK.out).mono ?_
    rintro e w2 ⟨rfl, hb⟩
    clear HCK
    have HC_c2 := hide (HC_c1.out.below' hb)
    have HX_c2 := hide (HX_c1.out.below' hb)
    have HBw_c2 := hide (HBw_c1.out.trans (hb.mono HBw_c1.out.size))
    clear HC_c1 HX_c1 HBw_c1 hb
    have HGD := hide hg
    clear hg
    go_wp2
    refine HK2.out _ _ ?_
    clear HK2
    refine wp_seq_k (fun K3 hK3 => ?_)
    have HK3 := hide hK3
    clear hK3
    have HTO := hide (total_any b ln lc xs w2 HX_c2.out)
    go_wp2_with fail
    refine (HTO.out).mono ?_
    rintro e w3 ⟨hb, t, r, rfl⟩
    clear HTO
    have HC_c3 := hide (HC_c2.out.below' hb)
    have HX_c3 := hide (HX_c2.out.below' hb)
    have HBw_c3 := hide (HBw_c2.out.trans (hb.mono HBw_c2.out.size))
    clear HC_c2 HX_c2 HBw_c2 hb
    go_wp2
    refine HK3.out _ _ ?_
    clear HK3
    refine wp_seq_k (fun K4 hK4 => ?_)
    have HK4 := hide hK4
    clear hK4
    have HLI := hide (lines_any 1 8 (Go.Proofs.enters_of Tryd.func8 (by kernel_rfl) rfl) reserve_any a len cap l b ln lc xs w3 HC_c3.out HBIG.out HX_c3.out)
    rcases hR1 : linesR 1 l xs with ⟨L1, r1⟩
    rw [hR1] at HLI
    dsimp only at HLI
    have HR1 := hide hR1
    clear hR1
    go_wp2_with fail
    refine (HLI.out).mono ?_
    rintro e w4 ⟨a1, c1, rfl, hI, hb⟩
    have HA := hide hI
    clear hI
    clear HLI
    have HC_c4 := hide (HC_c3.out.below' hb)
    have HX_c4 := hide (HX_c3.out.below' hb)
    have HBw_c4 := hide (HBw_c3.out.trans (hb.mono HBw_c3.out.size))
    clear HC_c3 HX_c3 HBw_c3 hb
    obtain ⟨m1, hm1⟩ : ∃ q, L1.length = q := ⟨_, rfl⟩
    rw [hm1] at HA ⊢
    have HM1 := hide hm1
    clear hm1
    go_wp2
    refine HK4.out _ _ ?_
    clear HK4
    by_cases hr : r = 0
    · subst hr
      by_cases hr1 : r1 = 0
      · subst hr1
        refine wp_seq_k (fun K5 hK5 => ?_)
        have HK5 := hide hK5
        clear hK5
        go_wp2
        refine HK5.out _ _ ?_
        clear HK5
        have hs := sold HGD.out (by rw [HR1.out])
        rw [HR1.out] at hs
        dsimp only at hs
        rcases hR3 : linesR 3 L1 xs with ⟨L3, r3⟩
        rw [hR3] at hs
        dsimp only at hs
        obtain ⟨hg1, h30, hg3, h4, hfit, hcell, hmany⟩ := hs
        subst h30
        have HG1 := hide hg1
        have HR3 := hide hR3
        have HG3 := hide hg3
        have HR4 := hide h4
        have HFIT := hide hfit
        have HCELL := hide hcell
        have HMANY := hide hmany
        clear hg1 hR3 hg3 h4 hfit hcell hmany
        by_cases hE : Lg.authE Lg.A0 [] n t = 0
        · refine wp_seq_k (fun K6 hK6 => ?_)
          have HK6 := hide hK6
          clear hK6
          have HAU := hide (Lg.auth_any none 0 0 Lg.A0 [] none 0 0 [] n t w4 (Lg.isP_nil _) (Lg.isG_nil _) Lg.bks_none)
          obtain ⟨e1, e2, e3, e4, e5, e6, e7, e8, e9, e10⟩ := Lg.sold_led hE
          rw [hE, e2, List.nil_append] at HAU
          have HE1 := hide e1
          have HE3 := hide e3
          have HE4 := hide e4
          have HE5 := hide e5
          have HE6 := hide e6
          have HE7 := hide e7
          have HE8 := hide e8
          have HE9 := hide e9
          have HE10 := hide e10
          clear e1 e2 e3 e4 e5 e6 e7 e8 e9 e10 hE
          go_wp2_with fail
          refine (HAU.out).mono ?_
          intro e w5 hop
          obtain ⟨hb, aB, nB, cB, bB, mB, dB, rfl, i1, i2, i3, i4, i5⟩ := hop.done
          clear hop
          have HB1 := hide i1
          have HB2 := hide i2
          have HBB := hide i3
          clear i1 i2 i3 i4 i5
          clear HAU
          have HC_c5 := hide (HC_c4.out.below' hb)
          have HX_c5 := hide (HX_c4.out.below' hb)
          have HBw_c5 := hide (HBw_c4.out.trans (hb.mono HBw_c4.out.size))
          have HA_c5 := hide (HA.out.below' hb)
          clear HC_c4 HX_c4 HBw_c4 HA hb
          go_wp2
          generalize hW : w5.alloc (.cells #[.slice aB nB cB, .slice bB mB dB] 35) = W5
          have hb : Below w5.heap.size w5 W5 := hW ▸ (Below.refl _ _).alloc (Nat.le_refl _) _
          have HXB : Hid (Lg.BlkB W5 w5.heap.size (.slice aB nB cB) (.slice bB mB dB)) := hide (hW ▸ heap_alloc_new _ _)
          have HC_a6 := hide (HC_c5.out.below' hb)
          have HX_a6 := hide (HX_c5.out.below' hb)
          have HBw_a6 := hide (HBw_c5.out.trans (hb.mono HBw_c5.out.size))
          have HA_a6 := hide (HA_c5.out.below' hb)
          have HB1_a6 := hide (HB1.out.below' hb)
          have HB2_a6 := hide (HB2.out.below' hb)
          clear HC_c5 HX_c5 HBw_c5 HA_c5 HB1 HB2 hb
          clear hW
          generalize w5.heap.size = BXB at *
          refine HK6.out _ _ ?_
          clear HK6
          refine wp_seq_k (fun K7 hK7 => ?_)
          have HK7 := hide hK7
          clear hK7
          go_wp2
          refine HK7.out _ _ ?_
          clear HK7
          refine wp_seq_k (fun K8 hK8 => ?_)
          have HK8 := hide hK8
          clear hK8
          have HCA := hide (Lg.capture_any aB nB cB _ _ bB mB dB _ n W5 HB1_a6.out HB2_a6.out HBB.out)
          rw [HE4.out, HE5.out, HE3.out] at HCA
          simp only [List.cons_append, List.nil_append] at HCA
          obtain ⟨x1, x2⟩ := HXB.out.cells
          go_wp2_with fail
          refine (HCA.out).mono ?_
          intro e w6 hop
          obtain ⟨hb, aC, nC, cC, bC, mC, dC, rfl, i1, i2, i3, i4, i5⟩ := hop.done
          clear hop
          have HK1 := hide i1
          have HK2 := hide i2
          have HBC := hide i3
          clear i1 i2 i3 i4 i5
          clear HCA x1 x2
          have HC_c7 := hide (HC_a6.out.below' hb)
          have HX_c7 := hide (HX_a6.out.below' hb)
          have HBw_c7 := hide (HBw_a6.out.trans (hb.mono HBw_a6.out.size))
          have HA_c7 := hide (HA_a6.out.below' hb)
          have HB1_c7 := hide (HB1_a6.out.below' hb)
          have HB2_c7 := hide (HB2_a6.out.below' hb)
          have HXB_c7 := hide (HXB.out.below (heap_lt HXB.out) hb)
          clear HC_a6 HX_a6 HBw_a6 HA_a6 HB1_a6 HB2_a6 HXB hb
          go_wp2
          generalize hW : w6.alloc (.cells #[.slice aC nC cC, .slice bC mC dC] 35) = W6
          have hb : Below w6.heap.size w6 W6 := hW ▸ (Below.refl _ _).alloc (Nat.le_refl _) _
          have HXC : Hid (Lg.BlkB W6 w6.heap.size (.slice aC nC cC) (.slice bC mC dC)) := hide (hW ▸ heap_alloc_new _ _)
          have HC_a8 := hide (HC_c7.out.below' hb)
          have HX_a8 := hide (HX_c7.out.below' hb)
          have HBw_a8 := hide (HBw_c7.out.trans (hb.mono HBw_c7.out.size))
          have HA_a8 := hide (HA_c7.out.below' hb)
          have HXB_a8 := hide (HXB_c7.out.below (heap_lt HXB_c7.out) hb)
          have HK1_a8 := hide (HK1.out.below' hb)
          have HK2_a8 := hide (HK2.out.below' hb)
          clear HC_c7 HX_c7 HBw_c7 HA_c7 HXB_c7 HK1 HK2 hb
          clear hW
          generalize w6.heap.size = BXC at *
          refine HK8.out _ _ ?_
          clear HK8
          refine wp_seq_k (fun K9 hK9 => ?_)
          have HK9 := hide hK9
          clear hK9
          have HLI := hide (lines_any 3 11 (Go.Proofs.enters_of Tryd.func11 (by kernel_rfl) rfl) send_any a1 m1 c1 L1 b ln lc xs W6 HA_a8.out (by have h1 := HG1.out.len; have h2 := HM1.out; omega) HX_a8.out)
          rw [HR3.out] at HLI
          dsimp only at HLI
          go_wp2_with fail
          refine (HLI.out).mono ?_
          rintro e w7 ⟨a3, c3, rfl, hI, hb⟩
          have HS := hide hI
          clear hI
          clear HLI
          have HC_c9 := hide (HC_a8.out.below' hb)
          have HX_c9 := hide (HX_a8.out.below' hb)
          have HBw_c9 := hide (HBw_a8.out.trans (hb.mono HBw_a8.out.size))
          have HA_c9 := hide (HA_a8.out.below' hb)
          have HXB_c9 := hide (HXB_a8.out.below (heap_lt HXB_a8.out) hb)
          have HK1_c9 := hide (HK1_a8.out.below' hb)
          have HK2_c9 := hide (HK2_a8.out.below' hb)
          have HXC_c9 := hide (HXC.out.below (heap_lt HXC.out) hb)
          clear HC_a8 HX_a8 HBw_a8 HA_a8 HXB_a8 HK1_a8 HK2_a8 HXC hb
          obtain ⟨m3, hm3⟩ : ∃ q, L3.length = q := ⟨_, rfl⟩
          rw [hm3] at HS ⊢
          have HM3 := hide hm3
          clear hm3
          go_wp2
          refine HK9.out _ _ ?_
          clear HK9
          refine wp_seq_k (fun K10 hK10 => ?_)
          have HK10 := hide hK10
          clear hK10
          go_wp2
          refine HK10.out _ _ ?_
          clear HK10
          go_wp2
          go_loopw [107] (fun i wr => ∃ k : Nat, k ≤ ln ∧ i = .int .i64 k ∧ Hid (Below w.heap.size w wr ∧ IsC wr a len cap l ∧ IsL wr b ln lc xs ∧ IsC wr a3 m3 c3 L3 ∧ Lg.BlkB wr BXC (.slice aC nC cC) (.slice bC mC dC) ∧ Lg.IsP wr aC nC cC (List.filter Lg.keepB (Lg.Aof n ⟨n, 0, t, 0⟩)) ∧ Lg.IsG wr bC mC dC [⟨n, 1, 2, t⟩, ⟨n, 2, 3, t⟩])) (fun i _ => ln - (intOf i).toNat)
          case atStart => exact ⟨0, by omega, rfl, hide ⟨HBw_c9.out, HC_c9.out, HX_c9.out, HS.out, HXC_c9.out, HK1_c9.out, HK2_c9.out⟩⟩
          case round =>
            obtain ⟨k, hk, rfl, HR⟩ := hrel
            clear HBw_c9 HC_c9 HX_c9 HS HXC_c9 HK1_c9 HK2_c9
            have HBw9 := hide HR.out.1
            have HC9 := hide HR.out.2.1
            have HX9 := hide HR.out.2.2.1
            have HS9 := hide HR.out.2.2.2.1
            have HXC9 := hide HR.out.2.2.2.2.1
            have HK19 := hide HR.out.2.2.2.2.2.1
            have HK29 := hide HR.out.2.2.2.2.2.2
            clear HR
            by_cases hkl : k < ln
            · have HFX := hide (HFIT.out (xs.getD k Ln0) (by
                rw [List.getD_eq_getElem?_getD, List.getElem?_eq_getElem (by rw [HXN.out]; exact hkl)]
                exact List.getElem_mem _))
              obtain ⟨bs, off, hbe, hbs, y0⟩ := HX9.out.2.2.2.1 k hkl
              have HY := hide y0
              clear y0
              generalize xs.getD k Ln0 = y at HY HFX
              obtain ⟨y1, y2, y3, y4⟩ := y
              obtain ⟨d1, d2, d3, d4⟩ := HY.out
              dsimp only at d1 d2 d3 d4 HFX
              subst hbe
              have hkI : (k : Int) < (ln : Int) := by omega
              have hk0 : (0 : Int) ≤ (k : Int) := by omega
              have hwk : IntKind.i64.wrap ((k : Int) + 1) = (k : Int) + 1 := wrap64 (by have := HXB.out; omega) (by have := HXB.out; omega)
              have HC1 := hide (HCELL.out y1 y2)
              have HMN := hide (HMANY.out y1 y2)
              have HSB := hide (sumB_iff.1 (cellOf_ok HGD.out y1 y2).2.2)
              have HQ1 : Hid (cellR l y1 y2 = (cellOf l y1 y2, 0)) := hide (cellR_is HGD.out HFX.out.1)
              have HQ3 : Hid (cellR L3 y1 y2 = (cellOf L3 y1 y2, 0)) := hide (cellR_is HG3.out HFX.out.1)
              have HML : Hid (∀ j, 0 ≤ many (xs.take j) y1 y2 ∧ many (xs.take j) y1 y2 ≤ many xs y1 y2) := hide (fun j => many_le (fun x hx => (HFIT.out x hx).2.1) j y1 y2)
              rcases hz : cellOf l y1 y2 with ⟨z1, z2, z3, z4, z5, z6⟩
              rw [hz] at HC1 HMN HSB HQ1
              dsimp only at HC1 HMN HSB
              rw [HC1.out] at HQ3
              clear hz
              go_wp2_with fail
              generalize hW : wr.alloc (.cells #[.int .i64 y1, .int .i64 y2, .int .i64 y3, .int .i64 y4] 41) = V0
              have hb : Below wr.heap.size wr V0 := hW ▸ (Below.refl _ _).alloc (Nat.le_refl _) _
              have HL : Hid (BlkL V0 wr.heap.size ⟨y1, y2, y3, y4⟩) := hide (hW ▸ heap_alloc_new _ _)
              have HBw_a10 := hide (HBw9.out.trans (hb.mono HBw9.out.size))
              have HC_a10 := hide (HC9.out.below' hb)
              have HX_a10 := hide (HX9.out.below' hb)
              have HS_a10 := hide (HS9.out.below' hb)
              have HXC_a10 := hide (HXC9.out.below (heap_lt HXC9.out) hb)
              have HK1_a10 := hide (HK19.out.below' hb)
              have HK2_a10 := hide (HK29.out.below' hb)
              clear HBw9 HC9 HX9 HS9 HXC9 HK19 HK29 hb
              clear hW
              generalize wr.heap.size = BL at *
              clear d1 d2 d3 d4 HY
              have HCL := hide (cell_any a len cap l y1 y2 V0 HC_a10.out)
              rw [HQ1.out] at HCL
              refine HCL.out.mono ?_
              rintro e v1 ⟨rfl, hb⟩
              clear HCL
              have HBw_c11 := hide (HBw_a10.out.trans (hb.mono HBw_a10.out.size))
              have HC_c11 := hide (HC_a10.out.below' hb)
              have HX_c11 := hide (HX_a10.out.below' hb)
              have HS_c11 := hide (HS_a10.out.below' hb)
              have HXC_c11 := hide (HXC_a10.out.below (heap_lt HXC_a10.out) hb)
              have HK1_c11 := hide (HK1_a10.out.below' hb)
              have HK2_c11 := hide (HK2_a10.out.below' hb)
              have HL_c11 := hide (HL.out.below (heap_lt HL.out) hb)
              clear HBw_a10 HC_a10 HX_a10 HS_a10 HXC_a10 HK1_a10 HK2_a10 HL hb
              rename_i KA hKA KB hKB
              have HKA := hide hKA
              clear hKA
              go_wp2
              generalize hW : v1.alloc (.cells #[.int .i64 z1, .int .i64 z2, .int .i64 z3, .int .i64 z4, .int .i64 z5, .int .i64 z6] 43) = V1
              have hb : Below v1.heap.size v1 V1 := hW ▸ (Below.refl _ _).alloc (Nat.le_refl _) _
              have HP : Hid (Blk V1 v1.heap.size ⟨z1, z2, z3, z4, z5, z6⟩) := hide (hW ▸ heap_alloc_new _ _)
              have HBw_a12 := hide (HBw_c11.out.trans (hb.mono HBw_c11.out.size))
              have HC_a12 := hide (HC_c11.out.below' hb)
              have HX_a12 := hide (HX_c11.out.below' hb)
              have HS_a12 := hide (HS_c11.out.below' hb)
              have HXC_a12 := hide (HXC_c11.out.below (heap_lt HXC_c11.out) hb)
              have HK1_a12 := hide (HK1_c11.out.below' hb)
              have HK2_a12 := hide (HK2_c11.out.below' hb)
              have HL_a12 := hide (HL_c11.out.below (heap_lt HL_c11.out) hb)
              clear HBw_c11 HC_c11 HX_c11 HS_c11 HXC_c11 HK1_c11 HK2_c11 HL_c11 hb
              clear hW
              generalize v1.heap.size = BP at *
              refine HKA.out _ _ ?_
              clear HKA
              refine wp_seq_k (fun K11 hK11 => ?_)
              have HK11 := hide hK11
              clear hK11
              obtain ⟨x1, x2, x3, x4⟩ := HL_a12.out.cells
              have HCL := hide (cell_any a3 m3 c3 L3 y1 y2 V1 HS_a12.out)
              rw [HQ3.out] at HCL
              go_wp2_with fail
              refine (HCL.out).mono ?_
              rintro e v2 ⟨rfl, hb⟩
              clear HCL x1 x2 x3 x4
              have HBw_c13 := hide (HBw_a12.out.trans (hb.mono HBw_a12.out.size))
              have HC_c13 := hide (HC_a12.out.below' hb)
              have HX_c13 := hide (HX_a12.out.below' hb)
              have HS_c13 := hide (HS_a12.out.below' hb)
              have HXC_c13 := hide (HXC_a12.out.below (heap_lt HXC_a12.out) hb)
              have HK1_c13 := hide (HK1_a12.out.below' hb)
              have HK2_c13 := hide (HK2_a12.out.below' hb)
              have HL_c13 := hide (HL_a12.out.below (heap_lt HL_a12.out) hb)
              have HP_c13 := hide (HP.out.below (heap_lt HP.out) hb)
              clear HBw_a12 HC_a12 HX_a12 HS_a12 HXC_a12 HK1_a12 HK2_a12 HL_a12 HP hb
              generalize hM : many xs y1 y2 = M at *
              have HMM := hide hM
              clear hM
              go_wp2
              generalize hW : v2.alloc (.cells #[.int .i64 z1, .int .i64 z2, .int .i64 (z3 - M), .int .i64 z4, .int .i64 (z5 + M), .int .i64 z6] 43) = V2
              have hb : Below v2.heap.size v2 V2 := hW ▸ (Below.refl _ _).alloc (Nat.le_refl _) _
              have HE : Hid (Blk V2 v2.heap.size ⟨z1, z2, z3 - M, z4, z5 + M, z6⟩) := hide (hW ▸ heap_alloc_new _ _)
              have HBw_a14 := hide (HBw_c13.out.trans (hb.mono HBw_c13.out.size))
              have HC_a14 := hide (HC_c13.out.below' hb)
              have HX_a14 := hide (HX_c13.out.below' hb)
              have HS_a14 := hide (HS_c13.out.below' hb)
              have HXC_a14 := hide (HXC_c13.out.below (heap_lt HXC_c13.out) hb)
              have HK1_a14 := hide (HK1_c13.out.below' hb)
              have HK2_a14 := hide (HK2_c13.out.below' hb)
              have HL_a14 := hide (HL_c13.out.below (heap_lt HL_c13.out) hb)
              have HP_a14 := hide (HP_c13.out.below (heap_lt HP_c13.out) hb)
              clear HBw_c13 HC_c13 HX_c13 HS_c13 HXC_c13 HK1_c13 HK2_c13 HL_c13 HP_c13 hb
              clear hW
              generalize v2.heap.size = BE at *
              refine HK11.out _ _ ?_
              clear HK11
              refine wp_seq_k (fun K12 hK12 => ?_)
              have HK12 := hide hK12
              clear hK12
              go_wp2
              refine HK12.out _ _ ?_
              clear HK12
              refine wp_seq_k (fun K13 hK13 => ?_)
              have HK13 := hide hK13
              clear hK13
              go_wp2
              go_loopw [24, 131] (fun mv i wi => ∃ j : Nat, j ≤ ln ∧ i = .int .i64 j ∧ mv = .int .i64 (many (xs.take j) y1 y2) ∧ Hid (Below w.heap.size w wi ∧ IsC wi a len cap l ∧ IsL wi (some ⟨bs, off, none⟩) ln lc xs ∧ IsC wi a3 m3 c3 L3 ∧ Lg.BlkB wi BXC (.slice aC nC cC) (.slice bC mC dC) ∧ Lg.IsP wi aC nC cC (List.filter Lg.keepB (Lg.Aof n ⟨n, 0, t, 0⟩)) ∧ Lg.IsG wi bC mC dC [⟨n, 1, 2, t⟩, ⟨n, 2, 3, t⟩] ∧ BlkL wi BL ⟨y1, y2, y3, y4⟩ ∧ Blk wi BP ⟨z1, z2, z3, z4, z5, z6⟩ ∧ Blk wi BE ⟨z1, z2, z3 - M, z4, z5 + M, z6⟩)) (fun _ i _ => ln - (intOf i).toNat)
              case atStart => exact ⟨0, by omega, rfl, rfl, hide ⟨HBw_a14.out, HC_a14.out, HX_a14.out, HS_a14.out, HXC_a14.out, HK1_a14.out, HK2_a14.out, HL_a14.out, HP_a14.out, HE.out⟩⟩
              case round =>
                obtain ⟨j, hj, rfl, rfl, HR⟩ := hrel
                clear HBw_a14 HC_a14 HX_a14 HS_a14 HXC_a14 HK1_a14 HK2_a14 HL_a14 HP_a14 HE
                have HBw8 := hide HR.out.1
                have HC8 := hide HR.out.2.1
                have HX8 := hide HR.out.2.2.1
                have HS8 := hide HR.out.2.2.2.1
                have HXC8 := hide HR.out.2.2.2.2.1
                have HK18 := hide HR.out.2.2.2.2.2.1
                have HK28 := hide HR.out.2.2.2.2.2.2.1
                have HL8 := hide HR.out.2.2.2.2.2.2.2.1
                have HP8 := hide HR.out.2.2.2.2.2.2.2.2.1
                have HE8 := hide HR.out.2.2.2.2.2.2.2.2.2
                clear HR
                by_cases hjl : j < ln
                · have HMT := hide (many_take xs j (by rw [HXN.out]; exact hjl) y1 y2)
                  have HMJ := hide (HML.out j)
                  have HMJ1 := hide (HML.out (j + 1))
                  obtain ⟨bs2, off2, hbe2, hbs2, y0⟩ := HX8.out.2.2.2.1 j hjl
                  cases hbe2
                  have HY := hide y0
                  clear y0
                  generalize xs.getD j Ln0 = y at HY HMT
                  obtain ⟨v1', v2', v3', v4'⟩ := y
                  obtain ⟨d1, d2, d3, d4⟩ := HY.out
                  dsimp only at d1 d2 d3 d4 HMT
                  have hjI : (j : Int) < (ln : Int) := by omega
                  have hj0 : (0 : Int) ≤ (j : Int) := by omega
                  have hwj : IntKind.i64.wrap ((j : Int) + 1) = (j : Int) + 1 := wrap64 (by have := HXB.out; omega) (by have := HXB.out; omega)
                  obtain ⟨x1, x2, x3, x4⟩ := HL8.out.cells
                  dsimp only at x1 x2 x3 x4
                  have hlne : BL < wr.heap.size := heap_lt HL8.out
                  skip
                  generalize many (xs.take j) y1 y2 = Mj at *
                  generalize hMJ1 : many (xs.take (j + 1)) y1 y2 = Mk at *
                  have HGM := hide hMJ1
                  clear hMJ1
                  have HAL : Hid (Below wr.heap.size wr (wr.alloc (.cells #[.int .i64 v1', .int .i64 v2', .int .i64 v3', .int .i64 v4'] 41))) := hide ((Below.refl _ _).alloc (Nat.le_refl _) _)
                  clear x1 x2 x3 x4
                  obtain ⟨x1, x2, x3, x4⟩ := (HL8.out.below (heap_lt HL8.out) HAL.out).cells
                  dsimp only at x1 x2 x3 x4
                  by_cases e1 : v1' = y1
                  · by_cases e2 : v2' = y2
                    · rw [if_pos ⟨e1, e2⟩] at HMT
                      subst e1
                      subst e2
                      have hwm : IntKind.i64.wrap (Mj + v3') = Mk := by rw [← HMT.out]; exact wrap64 (by have := HMJ1.out; have := HMN.out; have := HSB.out; omega) (by have := HMJ1.out; have := HMN.out; have := HSB.out; omega)
                      go_wp2
                      go_roundw
                      case rel => exact ⟨j + 1, by omega, by simp, by rw [HGM.out], hide ⟨(HBw8.out.trans (HAL.out.mono HBw8.out.size)), (HC8.out.below' HAL.out), (HX8.out.below' HAL.out), (HS8.out.below' HAL.out), (HXC8.out.below (heap_lt HXC8.out) HAL.out), (HK18.out.below' HAL.out), (HK28.out.below' HAL.out), (HL8.out.below (heap_lt HL8.out) HAL.out), (HP8.out.below (heap_lt HP8.out) HAL.out), (HE8.out.below (heap_lt HE8.out) HAL.out)⟩⟩
                      case measure => simp [intOf]; omega
                    · rw [if_neg (fun e => e2 e.2)] at HMT
                      have hmk : Mk = Mj := by have := HMT.out; omega
                      subst hmk
                      subst e1
                      have hf2 : (v2' == y2) = false := by simpa using e2
                      go_wp2
                      go_roundw
                      case rel => exact ⟨j + 1, by omega, by simp, by rw [HGM.out], hide ⟨(HBw8.out.trans (HAL.out.mono HBw8.out.size)), (HC8.out.below' HAL.out), (HX8.out.below' HAL.out), (HS8.out.below' HAL.out), (HXC8.out.below (heap_lt HXC8.out) HAL.out), (HK18.out.below' HAL.out), (HK28.out.below' HAL.out), (HL8.out.below (heap_lt HL8.out) HAL.out), (HP8.out.below (heap_lt HP8.out) HAL.out), (HE8.out.below (heap_lt HE8.out) HAL.out)⟩⟩
                      case measure => simp [intOf]; omega
                  · rw [if_neg (fun e => e1 e.1)] at HMT
                    have hmk : Mk = Mj := by have := HMT.out; omega
                    subst hmk
                    have hf1 : (v1' == y1) = false := by simpa using e1
                    go_wp2
                    go_roundw
                    case rel => exact ⟨j + 1, by omega, by simp, by rw [HGM.out], hide ⟨(HBw8.out.trans (HAL.out.mono HBw8.out.size)), (HC8.out.below' HAL.out), (HX8.out.below' HAL.out), (HS8.out.below' HAL.out), (HXC8.out.below (heap_lt HXC8.out) HAL.out), (HK18.out.below' HAL.out), (HK28.out.below' HAL.out), (HL8.out.below (heap_lt HL8.out) HAL.out), (HP8.out.below (heap_lt HP8.out) HAL.out), (HE8.out.below (heap_lt HE8.out) HAL.out)⟩⟩
                    case measure => simp [intOf]; omega
                · obtain rfl : j = ln := by omega
                  have hjI : ¬ (j : Int) < (j : Int) := by omega
                  have HTK : Hid (many (xs.take j) y1 y2 = M) := hide (by rw [List.take_of_length_le (by rw [HXN.out]; omega)]; exact HMM.out)
                  rw [HTK.out]
                  go_wp2
                  refine HK13.out _ _ ?_
                  clear HK13
                  obtain ⟨x1, x2, x3, x4, x5, x6⟩ := HP8.out.cells
                  obtain ⟨q1, q2, q3, q4, q5, q6⟩ := HE8.out.cells
                  simp only [Nat.zero_add] at x1 x2 x3 x4 x5 x6 q1 q2 q3 q4 q5 q6
                  have hw5 : IntKind.i64.wrap (z5 + M) = z5 + M := wrap64 (by have := HMN.out; have := HSB.out; omega) (by have := HMN.out; have := HSB.out; omega)
                  have hw3 : IntKind.i64.wrap (z3 - M) = z3 - M := wrap64 (by have := HMN.out; have := HSB.out; omega) (by have := HMN.out; have := HSB.out; omega)
                  go_wp2
                  go_roundw
                  case rel => exact ⟨k + 1, by omega, by simp, hide ⟨HBw8.out, HC8.out, HX8.out, HS8.out, HXC8.out, HK18.out, HK28.out⟩⟩
                  case measure => simp [intOf]; omega
            · obtain rfl : k = ln := by omega
              have hkI : ¬ (k : Int) < (k : Int) := by omega
              have HLI := hide (lines_any 4 13 (Go.Proofs.enters_of Tryd.func13 (by kernel_rfl) rfl) takeback_any a3 m3 c3 L3 b k lc xs wr HS9.out (by have h1 := HG3.out.len; have h2 := HM3.out; omega) HX9.out)
              rw [HR4.out] at HLI
              dsimp only at HLI
              rw [HLN.out] at HLI
              go_wp2_with fail
              refine HLI.out.mono ?_
              rintro e v3 ⟨a4, c4, rfl, hI, hb⟩
              have HG4 := hide hI
              clear hI HLI
              have HBw_c10 := hide (HBw9.out.trans (hb.mono HBw9.out.size))
              have HC_c10 := hide (HC9.out.below' hb)
              have HX_c10 := hide (HX9.out.below' hb)
              have HS_c10 := hide (HS9.out.below' hb)
              have HXC_c10 := hide (HXC9.out.below (heap_lt HXC9.out) hb)
              have HK1_c10 := hide (HK19.out.below' hb)
              have HK2_c10 := hide (HK29.out.below' hb)
              clear HBw9 HC9 HX9 HS9 HXC9 HK19 HK29 hb
              rename_i KA hKA KB hKB
              have HKA := hide hKA
              clear hKA
              go_wp2
              refine HKA.out _ _ ?_
              clear HKA
              refine wp_seq_k (fun K11 hK11 => ?_)
              have HK11 := hide hK11
              clear hK11
              have HRF := hide (Lg.refund_any aC nC cC _ _ bC mC dC _ n t v3 HK1_c10.out HK2_c10.out HBC.out)
              rw [HE6.out, HE7.out] at HRF
              simp only [List.cons_append, List.nil_append] at HRF
              obtain ⟨x1, x2⟩ := HXC_c10.out.cells
              go_wp2_with fail
              refine (HRF.out).mono ?_
              intro e v4 hop
              obtain ⟨hb, aF, nF, cF, bF, mF, dF, rfl, i1, i2, i3, i4, i5⟩ := hop.done
              clear hop
              have HF1 := hide i1
              have HF2 := hide i2
              have HBF := hide i3
              clear i1 i2 i3 i4 i5
              clear HRF x1 x2
              have HBw_c11 := hide (HBw_c10.out.trans (hb.mono HBw_c10.out.size))
              have HC_c11 := hide (HC_c10.out.below' hb)
              have HX_c11 := hide (HX_c10.out.below' hb)
              have HS_c11 := hide (HS_c10.out.below' hb)
              have HXC_c11 := hide (HXC_c10.out.below (heap_lt HXC_c10.out) hb)
              have HK1_c11 := hide (HK1_c10.out.below' hb)
              have HK2_c11 := hide (HK2_c10.out.below' hb)
              have HG_c11 := hide (HG4.out.below' hb)
              clear HBw_c10 HC_c10 HX_c10 HS_c10 HXC_c10 HK1_c10 HK2_c10 HG4 hb
              go_wp2
              generalize hW : v4.alloc (.cells #[.slice aF nF cF, .slice bF mF dF] 35) = V4
              have hb : Below v4.heap.size v4 V4 := hW ▸ (Below.refl _ _).alloc (Nat.le_refl _) _
              have HXF : Hid (Lg.BlkB V4 v4.heap.size (.slice aF nF cF) (.slice bF mF dF)) := hide (hW ▸ heap_alloc_new _ _)
              have HBw_a12 := hide (HBw_c11.out.trans (hb.mono HBw_c11.out.size))
              have HC_a12 := hide (HC_c11.out.below' hb)
              have HX_a12 := hide (HX_c11.out.below' hb)
              have HS_a12 := hide (HS_c11.out.below' hb)
              have HXC_a12 := hide (HXC_c11.out.below (heap_lt HXC_c11.out) hb)
              have HK1_a12 := hide (HK1_c11.out.below' hb)
              have HK2_a12 := hide (HK2_c11.out.below' hb)
              have HG_a12 := hide (HG_c11.out.below' hb)
              have HF1_a12 := hide (HF1.out.below' hb)
              have HF2_a12 := hide (HF2.out.below' hb)
              clear HBw_c11 HC_c11 HX_c11 HS_c11 HXC_c11 HK1_c11 HK2_c11 HG_c11 HF1 HF2 hb
              clear hW
              generalize v4.heap.size = BXF at *
              refine HK11.out _ _ ?_
              clear HK11
              refine wp_seq_k (fun K12 hK12 => ?_)
              have HK12 := hide hK12
              clear hK12
              have HPY := hide (Lg.pay_any aF nF cF _ _ bF mF dF _ n V4 HF1_a12.out HF2_a12.out HBF.out)
              rw [HE8.out] at HPY
              obtain ⟨x1, x2⟩ := HXF.out.cells
              go_wp2_with fail
              refine (HPY.out).mono ?_
              rintro e v5 ⟨hb, ⟨hno, _⟩ | ⟨_, rfl⟩⟩
              · exact absurd hno (by rw [HE1.out]; decide)
              clear HPY x1 x2
              have HBw_c13 := hide (HBw_a12.out.trans (hb.mono HBw_a12.out.size))
              have HC_c13 := hide (HC_a12.out.below' hb)
              have HX_c13 := hide (HX_a12.out.below' hb)
              have HS_c13 := hide (HS_a12.out.below' hb)
              have HXC_c13 := hide (HXC_a12.out.below (heap_lt HXC_a12.out) hb)
              have HK1_c13 := hide (HK1_a12.out.below' hb)
              have HK2_c13 := hide (HK2_a12.out.below' hb)
              have HG_c13 := hide (HG_a12.out.below' hb)
              have HF1_c13 := hide (HF1_a12.out.below' hb)
              have HF2_c13 := hide (HF2_a12.out.below' hb)
              have HXF_c13 := hide (HXF.out.below (heap_lt HXF.out) hb)
              clear HBw_a12 HC_a12 HX_a12 HS_a12 HXC_a12 HK1_a12 HK2_a12 HG_a12 HF1_a12 HF2_a12 HXF hb
              go_wp2
              generalize hW : v5.alloc (.cells #[.int .i64 n, .int .i64 0, .int .i64 t, .int .i64 t] 47) = V5
              have hb : Below v5.heap.size v5 V5 := hW ▸ (Below.refl _ _).alloc (Nat.le_refl _) _
              have HY : Hid (Lg.BlkP V5 v5.heap.size ⟨n, 0, t, t⟩) := hide (hW ▸ heap_alloc_new _ _)
              have HBw_a14 := hide (HBw_c13.out.trans (hb.mono HBw_c13.out.size))
              have HC_a14 := hide (HC_c13.out.below' hb)
              have HX_a14 := hide (HX_c13.out.below' hb)
              have HS_a14 := hide (HS_c13.out.below' hb)
              have HXC_a14 := hide (HXC_c13.out.below (heap_lt HXC_c13.out) hb)
              have HK1_a14 := hide (HK1_c13.out.below' hb)
              have HK2_a14 := hide (HK2_c13.out.below' hb)
              have HG_a14 := hide (HG_c13.out.below' hb)
              have HF1_a14 := hide (HF1_c13.out.below' hb)
              have HF2_a14 := hide (HF2_c13.out.below' hb)
              have HXF_a14 := hide (HXF_c13.out.below (heap_lt HXF_c13.out) hb)
              clear HBw_c13 HC_c13 HX_c13 HS_c13 HXC_c13 HK1_c13 HK2_c13 HG_c13 HF1_c13 HF2_c13 HXF_c13 hb
              clear hW
              generalize v5.heap.size = BY at *
              refine HK12.out _ _ ?_
              clear HK12
              refine wp_seq_k (fun K13 hK13 => ?_)
              have HK13 := hide hK13
              clear hK13
              have HPY := hide (Lg.balance3_any aF nF cF _ bF mF dF _ V5 HF1_a14.out HF2_a14.out HBF.out.check)
              rw [HE9.out, HE10.out] at HPY
              obtain ⟨x1, x2⟩ := HXF_a14.out.cells
              go_wp2_with fail
              refine (HPY.out).mono ?_
              rintro e v6 ⟨hb, rfl⟩
              clear HPY x1 x2
              have HBw_c15 := hide (HBw_a14.out.trans (hb.mono HBw_a14.out.size))
              have HC_c15 := hide (HC_a14.out.below' hb)
              have HX_c15 := hide (HX_a14.out.below' hb)
              have HS_c15 := hide (HS_a14.out.below' hb)
              have HXC_c15 := hide (HXC_a14.out.below (heap_lt HXC_a14.out) hb)
              have HK1_c15 := hide (HK1_a14.out.below' hb)
              have HK2_c15 := hide (HK2_a14.out.below' hb)
              have HG_c15 := hide (HG_a14.out.below' hb)
              have HF1_c15 := hide (HF1_a14.out.below' hb)
              have HF2_c15 := hide (HF2_a14.out.below' hb)
              have HXF_c15 := hide (HXF_a14.out.below (heap_lt HXF_a14.out) hb)
              have HY_c15 := hide (HY.out.below (heap_lt HY.out) hb)
              clear HBw_a14 HC_a14 HX_a14 HS_a14 HXC_a14 HK1_a14 HK2_a14 HG_a14 HF1_a14 HF2_a14 HXF_a14 HY hb
              go_wp2
              refine HK13.out _ _ ?_
              clear HK13
              obtain ⟨y1, y2, y3, y4⟩ := HY_c15.out.cells
              simp only [Nat.zero_add] at y1 y2 y3 y4
              refine wp_seq_k (fun K14 hK14 => ?_)
              have HK14 := hide hK14
              clear hK14
              go_wp2
              refine HK14.out _ _ ?_
              clear HK14
              clear y1 y2 y3 y4
              go_wp2
              go_loopw [241] (fun i wj => ∃ q : Nat, q ≤ len ∧ i = .int .i64 q ∧ Hid (Below w.heap.size w wj ∧ IsC wj a len cap l ∧ IsC wj a4 len c4 l)) (fun i _ => len - (intOf i).toNat)
              case atStart => exact ⟨0, by omega, rfl, hide ⟨HBw_c15.out, HC_c15.out, HG_c15.out⟩⟩
              case round =>
                obtain ⟨q, hq, rfl, HR⟩ := hrel
                clear HBw_c15 HC_c15 HX_c15 HS_c15 HXC_c15 HK1_c15 HK2_c15 HG_c15 HF1_c15 HF2_c15 HXF_c15 HY_c15
                by_cases hql : q < len
                · obtain ⟨bs, off, hb1, hbs, z0⟩ := HR.out.2.1.2.2.2.2.1 q hql
                  obtain ⟨bt, oft, hb2, hbt, z1⟩ := HR.out.2.2.2.2.2.2.1 q hql
                  subst hb1
                  subst hb2
                  have HZ0 := hide z0
                  have HZ1 := hide z1
                  clear z0 z1
                  generalize l.getD q Cl0 = y at HZ0 HZ1
                  obtain ⟨s1, s2, s3, s4, s5, s6⟩ := y
                  obtain ⟨d1, d2, d3, d4, d5, d6⟩ := HZ0.out
                  obtain ⟨e1, e2, e3, e4, e5, e6⟩ := HZ1.out
                  dsimp only at d1 d2 d3 d4 d5 d6 e1 e2 e3 e4 e5 e6
                  have u1 := equal31 s1 s2 s3 s4 s5 s6 s1 s2 s3 s4 s5 s6
                  have u2 := eqg31
                  have u3 : sameC ⟨s1, s2, s3, s4, s5, s6⟩ ⟨s1, s2, s3, s4, s5, s6⟩ = true := (sameC_iff _ _).2 rfl
                  rw [u3] at u1
                  clear u3
                  have hqI : (q : Int) < (len : Int) := by omega
                  have hq0 : (0 : Int) ≤ (q : Int) := by omega
                  have hwq : IntKind.i64.wrap ((q : Int) + 1) = (q : Int) + 1 := wrap64 (by have := HBIG.out; omega) (by have := HBIG.out; omega)
                  have HSS := hide (show (wr.drew.cell? ⟨bs, off + q * 6, none⟩ = some (.int .i64 s1) ∧ wr.drew.cell? ⟨bs, off + q * 6 + 1, none⟩ = some (.int .i64 s2) ∧ wr.drew.cell? ⟨bs, off + q * 6 + 2, none⟩ = some (.int .i64 s3) ∧ wr.drew.cell? ⟨bs, off + q * 6 + 3, none⟩ = some (.int .i64 s4) ∧ wr.drew.cell? ⟨bs, off + q * 6 + 4, none⟩ = some (.int .i64 s5) ∧ wr.drew.cell? ⟨bs, off + q * 6 + 5, none⟩ = some (.int .i64 s6) ∧ wr.drew.cell? ⟨bt, oft + q * 6, none⟩ = some (.int .i64 s1) ∧ wr.drew.cell? ⟨bt, oft + q * 6 + 1, none⟩ = some (.int .i64 s2) ∧ wr.drew.cell? ⟨bt, oft + q * 6 + 2, none⟩ = some (.int .i64 s3) ∧ wr.drew.cell? ⟨bt, oft + q * 6 + 3, none⟩ = some (.int .i64 s4) ∧ wr.drew.cell? ⟨bt, oft + q * 6 + 4, none⟩ = some (.int .i64 s5) ∧ wr.drew.cell? ⟨bt, oft + q * 6 + 5, none⟩ = some (.int .i64 s6)) from ⟨d1, d2, d3, d4, d5, d6, e1, e2, e3, e4, e5, e6⟩)
                  go_wp2_with fail
                  go_region_held (fun W : World => (W.cell? ⟨bs, off + q * 6, none⟩ = some (.int .i64 s1) ∧ W.cell? ⟨bs, off + q * 6 + 1, none⟩ = some (.int .i64 s2) ∧ W.cell? ⟨bs, off + q * 6 + 2, none⟩ = some (.int .i64 s3) ∧ W.cell? ⟨bs, off + q * 6 + 3, none⟩ = some (.int .i64 s4) ∧ W.cell? ⟨bs, off + q * 6 + 4, none⟩ = some (.int .i64 s5) ∧ W.cell? ⟨bs, off + q * 6 + 5, none⟩ = some (.int .i64 s6) ∧ W.cell? ⟨bt, oft + q * 6, none⟩ = some (.int .i64 s1) ∧ W.cell? ⟨bt, oft + q * 6 + 1, none⟩ = some (.int .i64 s2) ∧ W.cell? ⟨bt, oft + q * 6 + 2, none⟩ = some (.int .i64 s3) ∧ W.cell? ⟨bt, oft + q * 6 + 3, none⟩ = some (.int .i64 s4) ∧ W.cell? ⟨bt, oft + q * 6 + 4, none⟩ = some (.int .i64 s5) ∧ W.cell? ⟨bt, oft + q * 6 + 5, none⟩ = some (.int .i64 s6))) (exact HSS.out) (fail)
                  go_wp2
                  go_roundw
                  case rel => exact ⟨q + 1, by omega, by simp, hide ⟨HR.out.1.drew, HR.out.2.1, HR.out.2.2⟩⟩
                  case measure => simp [intOf]; omega
                · obtain rfl : q = len := by omega
                  have hqI : ¬ (q : Int) < (q : Int) := by omega
                  go_wp2
                  go_ret
                  exact ⟨rfl, HR.out.1⟩
        · refine wp_seq_k (fun K6 hK6 => ?_)
          have HK6 := hide hK6
          clear hK6
          have HAU := hide (Lg.auth_any none 0 0 Lg.A0 [] none 0 0 [] n t w4 (Lg.isP_nil _) (Lg.isG_nil _) Lg.bks_none)
          have HSN := hide (Lg.sold_no hE)
          generalize Lg.authE Lg.A0 [] n t = re at *
          have hr1 : (re != 0) = true := by simpa using hE
          go_wp2_with fail
          refine (HAU.out).mono ?_
          intro e w5 hop
          obtain ⟨hb, rfl⟩ := hop.no hE
          clear hop HAU
          have HC_c5 := hide (HC_c4.out.below' hb)
          have HX_c5 := hide (HX_c4.out.below' hb)
          have HBw_c5 := hide (HBw_c4.out.trans (hb.mono HBw_c4.out.size))
          have HA_c5 := hide (HA.out.below' hb)
          clear HC_c4 HX_c4 HBw_c4 HA hb
          go_wp2
          generalize hW : w5.alloc (.cells #[.slice none 0 0, .slice none 0 0] 35) = W5
          have hb : Below w5.heap.size w5 W5 := hW ▸ (Below.refl _ _).alloc (Nat.le_refl _) _
          have HB1 : Hid (Lg.BlkB W5 w5.heap.size (.slice none 0 0) (.slice none 0 0)) := hide (hW ▸ heap_alloc_new _ _)
          have HC_a6 := hide (HC_c5.out.below' hb)
          have HX_a6 := hide (HX_c5.out.below' hb)
          have HBw_a6 := hide (HBw_c5.out.trans (hb.mono HBw_c5.out.size))
          have HA_a6 := hide (HA_c5.out.below' hb)
          clear HC_c5 HX_c5 HBw_c5 HA_c5 hb
          clear hW
          generalize w5.heap.size = BB1 at *
          refine HK6.out _ _ ?_
          clear HK6
          by_cases q1 : n < 1
          · go_wp2
            go_ret
            exact ⟨rfl, HBw_a6.out⟩
          · by_cases q2 : 1024 < n
            · go_wp2
              go_ret
              exact ⟨rfl, HBw_a6.out⟩
            · by_cases q3 : t < 1
              · go_wp2
                go_ret
                exact ⟨rfl, HBw_a6.out⟩
              · have q4 : 1152921504606846976 < t := by have := HSN.out; omega
                go_wp2
                go_ret
                exact ⟨rfl, HBw_a6.out⟩
      · have hr2 : (r1 != 0) = true := by simpa using hr1
        go_wp2
        go_ret
        exact ⟨rfl, HBw_c4.out⟩
    · have hr1 : (r != 0) = true := by simpa using hr
      go_wp2
      go_ret
      exact ⟨rfl, HBw_c4.out⟩
  · rw [he] at HCK
    clear he
    go_wp2_with fail
    refine (HCK.out).mono ?_
    rintro e w2 ⟨rfl, hb⟩
    clear HCK
    have HC_c2 := hide (HC_c1.out.below' hb)
    have HX_c2 := hide (HX_c1.out.below' hb)
    have HBw_c2 := hide (HBw_c1.out.trans (hb.mono HBw_c1.out.size))
    clear HC_c1 HX_c1 HBw_c1 hb
    go_wp2
    go_ret
    exact ⟨rfl, HBw_c2.out⟩
end Go.Proofs.YtffhkljegopjmaaDoor

/- PagerFlip, walked -/
import Derived.Test.YtecmfpgccmmlpaaPs
namespace Go.Proofs.Ytecmfpgccmmlpaa
open Go.RowKit
set_option maxRecDepth 100000
set_option linter.unusedVariables false
set_option linter.unusedSimpArgs false
/-- between two commits -/
def FlI (w wr : World) (gp gq g gs b n k : Nat) : Prop := ∃ p st, PD w wr gp gq g gs b n p st ∧ Std n p st ∧ p.sup.gen = k + 1 ∧ st.wr ≤ 2 + k ∧ ∀ i, st.fr i = none
theorem FlI.step {w wr : World} {gp gq g gs b n k : Nat} (h : FlI w wr gp gq g gs b n k) (hk : k < 5) : Calls Try.prog 17 #[.pointer (some ⟨gp, 0, none⟩), .int .i64 0, .int .u64 ((k + 1 : Nat) : Int), .int .i64 (k : Nat)] wr fun e W' => e = .returned (.int .i64 0) ∧ FlI w W' gp gq g gs b n (k + 1) := by
  obtain ⟨p, st, h1, h2, h3, h4, h5⟩ := h
  have hb := h2.snd.big
  have hm : (p.sup.next 0 (k + 1) (k : Nat)).may = true := Sup.is_may (by
    have := Sup.of_may h2.snd.may
    simp only [Sup.next]; omega)
  obtain ⟨hc, hs⟩ := h2.commit 0 (k + 1) (k : Nat) hm (.inl rfl)
  have := h1.commit 0 (k + 1) (k : Nat) (by decide) (by decide) (by omega)
  rw [hc] at this
  refine this.mono ?_
  rintro e W' ⟨rfl, h⟩
  exact ⟨rfl, _, _, h, hs, by show p.sup.gen + 1 = _; omega, by rw [flipSt_wr]; omega, fun i => rfl⟩
/-- what stands behind the last commit and the power cut -/
theorem flip_last {w wr : World} {gp gq g gs b n : Nat} {p : Pg} {st : St} (h1 : PD w wr gp gq g gs b n p st) (h2 : Std n p st) (h4 : st.wr ≤ 10) (h5 : ∀ i, st.fr i = none) (hg : p.sup.gen ≤ 10) (c : Int) (seq : Nat) :
    ∃ (p' : Pg) (S : St) (e : Int) (s : Sup), p.commit n 0 seq 7 (st.arms c) = ((p', S), e) ∧ Snd n s S ∧ (∀ i, S.fr i = none) ∧ ((e = 0 ∧ s = p.sup.next 0 seq 7) ∨ (e ≠ 0 ∧ s = p.sup)) := by
  have hb := h2.snd.big
  have hsn : Snd n p.sup (st.arms c) := h2.snd.of_reads (fun k _ => rfl)
  by_cases hm : (p.sup.next 0 seq 7).may = true
  · by_cases ha : (st.arms c).arm = true ∧ (st.arms c).left = 0
    · have hf := flip_no (n := n) (nx := p.sup.next 0 seq 7) (st := st.arms c) h2.up h2.n2 ha
      refine ⟨p.told 8, (st.arms c).syncs.cuts, 8, p.sup, ?_, hsn.syncs.cuts, fun i => rfl, .inr ⟨by decide, rfl⟩⟩
      rw [Pg.commit, if_neg (by rw [h2.bad]; decide), if_neg (by rw [hm]; decide), if_neg (fun e => e.1 rfl), hf, if_pos (show (8 : Int) ≠ 0 by decide)]
    · have hc := commit_ok (n := n) (root := 0) (seq := seq) (live := 7) (p := p) (st := st.arms c) h2.bad hm (fun e => absurd rfl e) h2.up h2.n2 ha
      exact ⟨_, _, 0, _, hc, hsn.flip 0 seq 7 hm (.inl rfl), fun i => rfl, .inl ⟨rfl, rfl⟩⟩
  · rw [Bool.not_eq_true] at hm
    refine ⟨p, st.arms c, 2, p.sup, ?_, hsn, h5, .inr ⟨by decide, rfl⟩⟩
    rw [Pg.commit, if_neg (by rw [h2.bad]; decide), if_pos hm]
set_option maxHeartbeats 4000000 in
theorem flipWalk (N J C : Int) (seq : Nat) (WR : Int) (a : Option Addr) (len cap : Nat) (l : List (Nat × Nat)) (w : World) (hN : -9223372036854775808 ≤ N ∧ N ≤ 9223372036854775807) (hJ : -9223372036854775808 ≤ J ∧ J ≤ 9223372036854775807) (hC : -9223372036854775808 ≤ C ∧ C ≤ 9223372036854775807) (hs : seq < 18446744073709551616) (hW : -9223372036854775808 ≤ WR ∧ WR ≤ 9223372036854775807) (hF : IsF w a len cap l) :
    Calls Try.prog 4 #[.int .i64 N, .int .i64 J, .int .i64 C, .int .u64 (seq : Nat), .int .i64 WR, .slice a len cap] w fun e w' => e = .returned (.bool true) ∧ Below w.heap.size w w' := by
  have HF := hide hF
  have HWR := hide hW
  clear hF hN hJ hs hW
  by_cases hn : 1 ≤ N ∧ N ≤ 1024
  · obtain ⟨n, rfl⟩ := Int.eq_ofNat_of_zero_le (show 0 ≤ N by omega)
    have h0 : 0 < n := by omega
    have h1 : n ≤ 1024 := by omega
    clear hn
    go_enter Try.func4, Try.ntmps4
    go_wp2_with fail
    refine (lives_any w).mono ?_
    rintro e w1 ⟨rfl, hb1⟩
    have HN := hide (DD.new w w1 hb1 n h0 h1)
    clear hb1
    go_wp2_with fail
    refine HN.out.mono ?_
    rintro e w2 ⟨g, gs, b, rfl, hd2⟩
    have HFM := hide (hd2.format J (by decide))
    clear hd2 HN
    by_cases hf : fitsB J n = true
    · obtain ⟨z1, z2, z3, z4, z5, z6, z7⟩ := fmt_std hf h1
      rw [z1] at HFM
      have HI0 : Hid (∀ (W : World) (gp gq : Nat), PD w W gp gq g gs b n ((st0.fmt n J).1.opn n) (st0.fmt n J).1 → FlI w W gp gq g gs b n 0) := hide (fun W gp gq h => ⟨_, _, h, z3, by rw [z4]; rfl, z6, z7⟩)
      have HOP : Hid (∀ W : World, DD w W g gs b n (st0.fmt n J).1 → Calls Try.prog 16 #[.pointer (some ⟨g, 0, none⟩)] W fun e W' => ∃ gp gq, e = .returned (.tuple #[.pointer (some ⟨gp, 0, none⟩), .int .i64 0]) ∧ FlI w W' gp gq g gs b n 0) := hide (fun W h => (h.openOk z2).mono (fun e W' ⟨gp, gq, h1, h2⟩ => ⟨gp, gq, h1, HI0.out W' gp gq h2⟩))
      clear z1 z2 z3 z4 z5 z6 z7 HI0 hf
      go_wp2_with fail
      refine HFM.out.mono ?_
      rintro e w3 ⟨rfl, hd3⟩
      have HO3 := hide (HOP.out w3 hd3)
      clear hd3 HFM HOP
      go_wp2_with fail
      refine HO3.out.mono ?_
      rintro e w4 ⟨gp, gq, rfl, hfl⟩
      have HFL := hide hfl
      clear hfl HO3
      go_wp2_with fail
      go_loopw [16] (fun i wr => ∃ k : Nat, k ≤ 5 ∧ i = .int .i64 (k : Nat) ∧ Hid (FlI w wr gp gq g gs b n k)) (fun i _ => 5 - (intOf i).toNat)
      case atStart => exact ⟨0, by omega, rfl, HFL⟩
      case round =>
        obtain ⟨k, hk, rfl, HI⟩ := hrel
        clear HFL
        by_cases hkc : (k : Int) < C
        · have ec : decide ((k : Int) < C) = true := decide_eq_true hkc
          by_cases hk5 : k < 5
          · have e5 : decide ((k : Int) < 5) = true := decide_eq_true (by omega)
            have HST : Hid (Calls Try.prog 17 #[.pointer (some ⟨gp, 0, none⟩), .int .i64 0, .int .u64 ((k : Int) + 1), .int .i64 (k : Nat)] wr fun e W' => e = .returned (.int .i64 0) ∧ FlI w W' gp gq g gs b n (k + 1)) := hide (HI.out.step hk5)
            have hwk : IntKind.u64.wrap ((k : Int) + 1) = (k : Int) + 1 := by rw [IntKind.wrap_u64]; omega
            clear HI
            go_wp2_with fail
            refine HST.out.mono ?_
            rintro e w5 ⟨rfl, h5⟩
            have H5 := hide h5
            clear h5 HST
            go_wp2_with fail
            exact ⟨⟨k + 1, by omega, by simp, H5⟩, by simp [intOf]; omega⟩
          · have e5 : decide ((k : Int) < 5) = false := decide_eq_false (by omega)
            obtain ⟨⟨⟨gen, root, sq, jn, live⟩, ps, bad⟩, st, hpd, hst, hg, hwr, hfr⟩ := HI.out
            dsimp only at hg
            have HG := hide hg
            obtain ⟨p', S, e0, s, hcm, hsnd, hfrS, hes⟩ := flip_last hpd hst (by omega) hfr (show gen ≤ 10 by omega) WR seq
            have HES := hide hes
            have HSU := hide hpd.super
            have HAR : Hid (∀ W, PD w W gp gq g gs b n ⟨⟨gen, root, sq, jn, live⟩, ps, bad⟩ st → Calls Try.prog 19 #[.pointer (some ⟨g, 0, none⟩), .int .i64 WR] W fun e W' => e = .returned (.int .i64 0) ∧ PD w W' gp gq g gs b n ⟨⟨gen, root, sq, jn, live⟩, ps, bad⟩ (st.arms WR) ∧ Frm (fun i => SP gp gq i ∨ SD g gs b i) W W') := hide (fun W h => by
              have := arm_any (X := NoX) W g gs b n st h.d WR HWR.out.2
              rw [show st.armed WR = (st.arms WR, 0) by rw [St.armed, if_neg (by rw [hst.up]; decide)]] at this
              exact this.mono (fun e W' ⟨h1, h2, h3⟩ => ⟨h1, h.frmD h2 h3, h3.mono (fun i _ h => .inr h)⟩))
            have HCO : Hid (∀ W, PD w W gp gq g gs b n ⟨⟨gen, root, sq, jn, live⟩, ps, bad⟩ (st.arms WR) → Calls Try.prog 17 #[.pointer (some ⟨gp, 0, none⟩), .int .i64 0, .int .u64 (seq : Nat), .int .i64 7] W fun e W' => e = .returned (.int .i64 e0) ∧ PD w W' gp gq g gs b n p' S ∧ Frm (fun i => SP gp gq i ∨ SD g gs b i) W W') := hide (fun W h => by
              have := commit_any h.p h.d 0 seq 7 (by decide) (by decide) (show st.wr < _ by omega)
              rw [hcm] at this
              exact this.mono (fun e W' ⟨h1, h2, h3, h4⟩ => ⟨h1, h.frm2 h2 h3 h4, h4⟩))
            have HCU : Hid (∀ W, DD w W g gs b n S → Calls Try.prog 20 #[.pointer (some ⟨g, 0, none⟩)] W fun e W' => e = .returned (.int .i64 S.cut.2) ∧ DD w W' g gs b n S.cut.1 ∧ Frm (fun i => SP gp gq i ∨ SD g gs b i) W W') := hide (fun W h => (cut_any (X := NoX) W g gs b n S h.d).mono (fun e W' ⟨h1, h2, h3⟩ => ⟨h1, h.frm h2 h3, h3.mono (fun i _ h => .inr h)⟩))
            have HRE : Hid (∀ W, DD w W g gs b n S.cut.1 → Calls Try.prog 21 #[.pointer (some ⟨g, 0, none⟩), .slice a len cap] W fun e W' => e = .returned (.int .i64 (S.cut.1.rest n l).2) ∧ DD w W' g gs b n (S.cut.1.rest n l).1 ∧ Frm (fun i => SP gp gq i ∨ SD g gs b i) W W') := hide (fun W h => (rest_any (X := NoX) W g gs b n _ h.d a len cap l (HF.out.below h.b)).mono (fun e W' ⟨h1, h2, h3⟩ => ⟨h1, h.frm h2 h3, h3.mono (fun i _ h => .inr h)⟩))
            have HDN : Hid ((S.cut.1.rest n l).2 ≠ 0 → ∀ W, DD w W g gs b n (S.cut.1.rest n l).1 → Calls Try.prog 22 #[.pointer (some ⟨g, 0, none⟩)] W fun e W' => e = .returned (.bool true) ∧ W' = W) := hide (fun hne W h => by
              have := down_any (X := NoX) W g gs b n _ h.d
              rw [rest_no (cut_down S) hne] at this
              exact this)
            have HOK : Hid ((S.cut.1.rest n l).2 = 0 → ∀ W, DD w W g gs b n (S.cut.1.rest n l).1 → Calls Try.prog 16 #[.pointer (some ⟨g, 0, none⟩)] W fun e W' => ∃ gp2, e = .returned (.tuple #[.pointer (some ⟨gp2, 0, none⟩), .int .i64 0]) ∧ Below w.heap.size w W' ∧ Below W.heap.size W W' ∧ Calls Try.prog 18 #[.pointer (some ⟨gp2, 0, none⟩)] W' fun e W'' => e = .returned (supV s) ∧ Below W'.heap.size W' W'') := hide (fun h0 W h => by
              obtain ⟨r1, r2, r3, r4, r5⟩ := rest_keep (n := n) (l := l) (cut_down S) h0
              have hS3 : Snd n s (S.cut.1.rest n l).1 := hsnd.of_reads (fun k hk => by rw [r4 k (by rw [(cut_same S k).2]; exact hfrS k), (cut_same S k).1])
              have hc := hS3.cnt r1
              refine (open_any W g gs b n _ h.d).mono ?_
              rintro e W' ⟨q1, q2⟩
              rcases q1 with ⟨_, gp2, gq2, rfl, q3, q4, q5⟩ | ⟨q3, _⟩
              · refine ⟨gp2, rfl, h.b.trans (q2.mono h.b.size), q2, ?_⟩
                have := super_any q3
                rw [show ((S.cut.1.rest n l).1.opn n).sup = s by rw [opn_of hS3 r1]] at this
                exact this
              · exact absurd hc.1 q3)
            have HPD := hide hpd
            have HST := hide hst
            clear hpd hst hwr hfr hcm hsnd hfrS hes hg HI
            generalize S.cut.1.rest n l = RS at *
            obtain ⟨S3, er⟩ := RS
            dsimp only at HRE HDN HOK
            unfold supV supC at HSU
            dsimp only at HSU
            go_wp2_with fail
            refine HSU.out.mono ?_
            rintro e w5 ⟨rfl, h5⟩
            have hba : Below w5.heap.size w5 (w5.alloc (.cells #[.int .u64 (gen : Nat), .int .i64 root, .int .u64 (sq : Nat), .int .i64 jn, .int .i64 live] 24)) := (Below.refl _ _).alloc (Nat.le_refl _) _
            have H5 := hide (h5.below hba)
            have HB17 : Hid ((w5.alloc (.cells #[.int .u64 (gen : Nat), .int .i64 root, .int .u64 (sq : Nat), .int .i64 jn, .int .i64 live] 24)).heap[w5.heap.size]? = some (.cells #[.int .u64 (gen : Nat), .int .i64 root, .int .u64 (sq : Nat), .int .i64 jn, .int .i64 live] 24 (0, 0))) := hide (heap_alloc_new w5 _)
            obtain ⟨B17, hB17⟩ : ∃ B, B = w5.heap.size := ⟨_, rfl⟩
            have HN17 : Hid (B17 ≠ gp ∧ B17 ≠ gq ∧ ¬ SD g gs b B17) := hide (by
              have hb17 := HB17.out
              rw [← hB17] at hb17
              refine ⟨fun e => ?_, fun e => ?_, fun e => H5.out.d.noT (by decide) (by decide) e hb17⟩
              · rw [e, H5.out.p.blk] at hb17; simp at hb17
              · obtain ⟨cur, hh, _⟩ := H5.out.p.row
                rw [e, hh] at hb17; simp at hb17)
            clear h5 hba HSU HPD
            go_wp2_with fail
            generalize (w5.alloc (.cells #[.int .u64 (gen : Nat), .int .i64 root, .int .u64 (sq : Nat), .int .i64 jn, .int .i64 live] 24)) = w6 at *
            rw [← hB17] at HB17 ⊢
            clear hB17
            have HK17 : Hid (∀ W W' : World, W.heap[B17]? = some (.cells #[.int .u64 (gen : Nat), .int .i64 root, .int .u64 (sq : Nat), .int .i64 jn, .int .i64 live] 24 (0, 0)) → Frm (fun i => SP gp gq i ∨ SD g gs b i) W W' → W'.heap[B17]? = some (.cells #[.int .u64 (gen : Nat), .int .i64 root, .int .u64 (sq : Nat), .int .i64 jn, .int .i64 live] 24 (0, 0))) := hide (fun W W' hW hf => (hf.block B17 (heap_lt hW) (fun e => e.elim (fun e => e.elim HN17.out.1 HN17.out.2.1) HN17.out.2.2)).trans hW)
            refine (HAR.out w6 H5.out).mono ?_
            rintro e w7 ⟨rfl, h7, f7⟩
            have HB7 := hide (HK17.out _ _ HB17.out f7)
            have C7 := hide (HCO.out w7 h7)
            clear h7 f7 HAR HCO H5 HB17
            go_wp2_with fail
            refine C7.out.mono ?_
            rintro e w8 ⟨rfl, h8, f8⟩
            have HB8 := hide (HK17.out _ _ HB7.out f8)
            have C8 := hide (HCU.out w8 h8.dd)
            clear h8 f8 HCU HB7 C7
            go_wp2_with fail
            refine C8.out.mono ?_
            rintro e w9 ⟨rfl, h9, f9⟩
            have HB9 := hide (HK17.out _ _ HB8.out f9)
            have C9 := hide (HRE.out w9 h9)
            clear h9 f9 HRE HB8 C8
            go_wp2_with fail
            refine C9.out.mono ?_
            rintro e w10 ⟨rfl, h10, f10⟩
            have HBA := hide (HK17.out _ _ HB9.out f10)
            have HDA := hide h10
            clear h10 f10 HB9 C9 HK17 HN17
            by_cases her : er = 0
            · subst her
              have C10 := hide (HOK.out rfl w10 HDA.out)
              clear HOK HDN HDA
              go_wp2_with fail
              refine C10.out.mono ?_
              rintro e w11 ⟨gp2, rfl, hbw, hb11, hsu⟩
              have HBB := hide ((hb11.block B17 (heap_lt HBA.out)).trans HBA.out)
              have HSU := hide hsu
              have HWB := hide hbw
              clear hbw hb11 hsu HBA C10
              obtain ⟨sg, sr, ss, sj, sl⟩ := s
              unfold supV supC at HSU
              dsimp only at HSU
              go_wp2_with fail
              refine HSU.out.mono ?_
              rintro e w12 ⟨rfl, hb12⟩
              have hba : Below w12.heap.size w12 (w12.alloc (.cells #[.int .u64 (sg : Nat), .int .i64 sr, .int .u64 (ss : Nat), .int .i64 sj, .int .i64 sl] 24)) := (Below.refl _ _).alloc (Nat.le_refl _) _
              have hbx := HWB.out.trans (hb12.mono HWB.out.size)
              have HWF := hide (hbx.trans (hba.mono hbx.size))
              have HB17F := hide (((hb12.trans (hba.mono hb12.size)).block B17 (heap_lt HBB.out)).trans HBB.out)
              have y0 := cell_bk (j := 0) HB17F.out rfl
              have y1 := cell_bk (j := 1) HB17F.out rfl
              have y2 := cell_bk (j := 2) HB17F.out rfl
              have y3 := cell_bk (j := 3) HB17F.out rfl
              have y4 := cell_bk (j := 4) HB17F.out rfl
              simp only [List.getElem_toArray, List.getElem_cons_zero, List.getElem_cons_succ] at y0 y1 y2 y3 y4
              have hes := HES.out
              have hgk := HG.out
              have hw1 : IntKind.u64.wrap ((gen : Int) + 1) = (gen : Int) + 1 := by rw [IntKind.wrap_u64]; omega
              clear hgk hb12 hba hbx HBB HSU HWB HB17F HES HG
              by_cases hz : e0 = 0
              · have hs := (hes.resolve_right (fun h => h.1 hz)).2
                simp only [Sup.next, Sup.mk.injEq] at hs
                obtain ⟨hsg, rfl, rfl, rfl, rfl⟩ := hs
                have hsg2 : ((sg : Int) == (gen : Int) + 1) = true := by rw [hsg]; simp
                clear hsg
                subst hz
                clear hes
                go_wp2
                go_ret
                exact ⟨rfl, HWF.out⟩
              · have hs := (hes.resolve_left (fun h => hz h.1)).2
                simp only [Sup.mk.injEq] at hs
                obtain ⟨rfl, rfl, rfl, rfl, rfl⟩ := hs
                have hz2 : (e0 == 0) = false := by simpa using hz
                clear hes hz
                go_wp2
                go_ret
                exact ⟨rfl, HWF.out⟩
            · have hne : (er != 0) = true := by simpa using her
              have C10 := hide (HDN.out her w10 HDA.out)
              have HWF := hide HDA.out.b
              clear HOK HDN HDA her
              go_wp2_with fail
              refine C10.out.mono ?_
              rintro e w11 ⟨rfl, rfl⟩
              go_wp2
              go_ret
              exact ⟨rfl, HWF.out⟩
        · have ec : decide ((k : Int) < C) = false := decide_eq_false hkc
          obtain ⟨⟨⟨gen, root, sq, jn, live⟩, ps, bad⟩, st, hpd, hst, hg, hwr, hfr⟩ := HI.out
          dsimp only at hg
          have HG := hide hg
          obtain ⟨p', S, e0, s, hcm, hsnd, hfrS, hes⟩ := flip_last hpd hst (by omega) hfr (show gen ≤ 10 by omega) WR seq
          have HES := hide hes
          have HSU := hide hpd.super
          have HAR : Hid (∀ W, PD w W gp gq g gs b n ⟨⟨gen, root, sq, jn, live⟩, ps, bad⟩ st → Calls Try.prog 19 #[.pointer (some ⟨g, 0, none⟩), .int .i64 WR] W fun e W' => e = .returned (.int .i64 0) ∧ PD w W' gp gq g gs b n ⟨⟨gen, root, sq, jn, live⟩, ps, bad⟩ (st.arms WR) ∧ Frm (fun i => SP gp gq i ∨ SD g gs b i) W W') := hide (fun W h => by
            have := arm_any (X := NoX) W g gs b n st h.d WR HWR.out.2
            rw [show st.armed WR = (st.arms WR, 0) by rw [St.armed, if_neg (by rw [hst.up]; decide)]] at this
            exact this.mono (fun e W' ⟨h1, h2, h3⟩ => ⟨h1, h.frmD h2 h3, h3.mono (fun i _ h => .inr h)⟩))
          have HCO : Hid (∀ W, PD w W gp gq g gs b n ⟨⟨gen, root, sq, jn, live⟩, ps, bad⟩ (st.arms WR) → Calls Try.prog 17 #[.pointer (some ⟨gp, 0, none⟩), .int .i64 0, .int .u64 (seq : Nat), .int .i64 7] W fun e W' => e = .returned (.int .i64 e0) ∧ PD w W' gp gq g gs b n p' S ∧ Frm (fun i => SP gp gq i ∨ SD g gs b i) W W') := hide (fun W h => by
            have := commit_any h.p h.d 0 seq 7 (by decide) (by decide) (show st.wr < _ by omega)
            rw [hcm] at this
            exact this.mono (fun e W' ⟨h1, h2, h3, h4⟩ => ⟨h1, h.frm2 h2 h3 h4, h4⟩))
          have HCU : Hid (∀ W, DD w W g gs b n S → Calls Try.prog 20 #[.pointer (some ⟨g, 0, none⟩)] W fun e W' => e = .returned (.int .i64 S.cut.2) ∧ DD w W' g gs b n S.cut.1 ∧ Frm (fun i => SP gp gq i ∨ SD g gs b i) W W') := hide (fun W h => (cut_any (X := NoX) W g gs b n S h.d).mono (fun e W' ⟨h1, h2, h3⟩ => ⟨h1, h.frm h2 h3, h3.mono (fun i _ h => .inr h)⟩))
          have HRE : Hid (∀ W, DD w W g gs b n S.cut.1 → Calls Try.prog 21 #[.pointer (some ⟨g, 0, none⟩), .slice a len cap] W fun e W' => e = .returned (.int .i64 (S.cut.1.rest n l).2) ∧ DD w W' g gs b n (S.cut.1.rest n l).1 ∧ Frm (fun i => SP gp gq i ∨ SD g gs b i) W W') := hide (fun W h => (rest_any (X := NoX) W g gs b n _ h.d a len cap l (HF.out.below h.b)).mono (fun e W' ⟨h1, h2, h3⟩ => ⟨h1, h.frm h2 h3, h3.mono (fun i _ h => .inr h)⟩))
          have HDN : Hid ((S.cut.1.rest n l).2 ≠ 0 → ∀ W, DD w W g gs b n (S.cut.1.rest n l).1 → Calls Try.prog 22 #[.pointer (some ⟨g, 0, none⟩)] W fun e W' => e = .returned (.bool true) ∧ W' = W) := hide (fun hne W h => by
            have := down_any (X := NoX) W g gs b n _ h.d
            rw [rest_no (cut_down S) hne] at this
            exact this)
          have HOK : Hid ((S.cut.1.rest n l).2 = 0 → ∀ W, DD w W g gs b n (S.cut.1.rest n l).1 → Calls Try.prog 16 #[.pointer (some ⟨g, 0, none⟩)] W fun e W' => ∃ gp2, e = .returned (.tuple #[.pointer (some ⟨gp2, 0, none⟩), .int .i64 0]) ∧ Below w.heap.size w W' ∧ Below W.heap.size W W' ∧ Calls Try.prog 18 #[.pointer (some ⟨gp2, 0, none⟩)] W' fun e W'' => e = .returned (supV s) ∧ Below W'.heap.size W' W'') := hide (fun h0 W h => by
            obtain ⟨r1, r2, r3, r4, r5⟩ := rest_keep (n := n) (l := l) (cut_down S) h0
            have hS3 : Snd n s (S.cut.1.rest n l).1 := hsnd.of_reads (fun k hk => by rw [r4 k (by rw [(cut_same S k).2]; exact hfrS k), (cut_same S k).1])
            have hc := hS3.cnt r1
            refine (open_any W g gs b n _ h.d).mono ?_
            rintro e W' ⟨q1, q2⟩
            rcases q1 with ⟨_, gp2, gq2, rfl, q3, q4, q5⟩ | ⟨q3, _⟩
            · refine ⟨gp2, rfl, h.b.trans (q2.mono h.b.size), q2, ?_⟩
              have := super_any q3
              rw [show ((S.cut.1.rest n l).1.opn n).sup = s by rw [opn_of hS3 r1]] at this
              exact this
            · exact absurd hc.1 q3)
          have HPD := hide hpd
          have HST := hide hst
          clear hpd hst hwr hfr hcm hsnd hfrS hes hg HI
          generalize S.cut.1.rest n l = RS at *
          obtain ⟨S3, er⟩ := RS
          dsimp only at HRE HDN HOK
          unfold supV supC at HSU
          dsimp only at HSU
          go_wp2_with fail
          refine HSU.out.mono ?_
          rintro e w5 ⟨rfl, h5⟩
          have hba : Below w5.heap.size w5 (w5.alloc (.cells #[.int .u64 (gen : Nat), .int .i64 root, .int .u64 (sq : Nat), .int .i64 jn, .int .i64 live] 24)) := (Below.refl _ _).alloc (Nat.le_refl _) _
          have H5 := hide (h5.below hba)
          have HB17 : Hid ((w5.alloc (.cells #[.int .u64 (gen : Nat), .int .i64 root, .int .u64 (sq : Nat), .int .i64 jn, .int .i64 live] 24)).heap[w5.heap.size]? = some (.cells #[.int .u64 (gen : Nat), .int .i64 root, .int .u64 (sq : Nat), .int .i64 jn, .int .i64 live] 24 (0, 0))) := hide (heap_alloc_new w5 _)
          obtain ⟨B17, hB17⟩ : ∃ B, B = w5.heap.size := ⟨_, rfl⟩
          have HN17 : Hid (B17 ≠ gp ∧ B17 ≠ gq ∧ ¬ SD g gs b B17) := hide (by
            have hb17 := HB17.out
            rw [← hB17] at hb17
            refine ⟨fun e => ?_, fun e => ?_, fun e => H5.out.d.noT (by decide) (by decide) e hb17⟩
            · rw [e, H5.out.p.blk] at hb17; simp at hb17
            · obtain ⟨cur, hh, _⟩ := H5.out.p.row
              rw [e, hh] at hb17; simp at hb17)
          clear h5 hba HSU HPD
          go_wp2_with fail
          generalize (w5.alloc (.cells #[.int .u64 (gen : Nat), .int .i64 root, .int .u64 (sq : Nat), .int .i64 jn, .int .i64 live] 24)) = w6 at *
          rw [← hB17] at HB17 ⊢
          clear hB17
          have HK17 : Hid (∀ W W' : World, W.heap[B17]? = some (.cells #[.int .u64 (gen : Nat), .int .i64 root, .int .u64 (sq : Nat), .int .i64 jn, .int .i64 live] 24 (0, 0)) → Frm (fun i => SP gp gq i ∨ SD g gs b i) W W' → W'.heap[B17]? = some (.cells #[.int .u64 (gen : Nat), .int .i64 root, .int .u64 (sq : Nat), .int .i64 jn, .int .i64 live] 24 (0, 0))) := hide (fun W W' hW hf => (hf.block B17 (heap_lt hW) (fun e => e.elim (fun e => e.elim HN17.out.1 HN17.out.2.1) HN17.out.2.2)).trans hW)
          refine (HAR.out w6 H5.out).mono ?_
          rintro e w7 ⟨rfl, h7, f7⟩
          have HB7 := hide (HK17.out _ _ HB17.out f7)
          have C7 := hide (HCO.out w7 h7)
          clear h7 f7 HAR HCO H5 HB17
          go_wp2_with fail
          refine C7.out.mono ?_
          rintro e w8 ⟨rfl, h8, f8⟩
          have HB8 := hide (HK17.out _ _ HB7.out f8)
          have C8 := hide (HCU.out w8 h8.dd)
          clear h8 f8 HCU HB7 C7
          go_wp2_with fail
          refine C8.out.mono ?_
          rintro e w9 ⟨rfl, h9, f9⟩
          have HB9 := hide (HK17.out _ _ HB8.out f9)
          have C9 := hide (HRE.out w9 h9)
          clear h9 f9 HRE HB8 C8
          go_wp2_with fail
          refine C9.out.mono ?_
          rintro e w10 ⟨rfl, h10, f10⟩
          have HBA := hide (HK17.out _ _ HB9.out f10)
          have HDA := hide h10
          clear h10 f10 HB9 C9 HK17 HN17
          by_cases her : er = 0
          · subst her
            have C10 := hide (HOK.out rfl w10 HDA.out)
            clear HOK HDN HDA
            go_wp2_with fail
            refine C10.out.mono ?_
            rintro e w11 ⟨gp2, rfl, hbw, hb11, hsu⟩
            have HBB := hide ((hb11.block B17 (heap_lt HBA.out)).trans HBA.out)
            have HSU := hide hsu
            have HWB := hide hbw
            clear hbw hb11 hsu HBA C10
            obtain ⟨sg, sr, ss, sj, sl⟩ := s
            unfold supV supC at HSU
            dsimp only at HSU
            go_wp2_with fail
            refine HSU.out.mono ?_
            rintro e w12 ⟨rfl, hb12⟩
            have hba : Below w12.heap.size w12 (w12.alloc (.cells #[.int .u64 (sg : Nat), .int .i64 sr, .int .u64 (ss : Nat), .int .i64 sj, .int .i64 sl] 24)) := (Below.refl _ _).alloc (Nat.le_refl _) _
            have hbx := HWB.out.trans (hb12.mono HWB.out.size)
            have HWF := hide (hbx.trans (hba.mono hbx.size))
            have HB17F := hide (((hb12.trans (hba.mono hb12.size)).block B17 (heap_lt HBB.out)).trans HBB.out)
            have y0 := cell_bk (j := 0) HB17F.out rfl
            have y1 := cell_bk (j := 1) HB17F.out rfl
            have y2 := cell_bk (j := 2) HB17F.out rfl
            have y3 := cell_bk (j := 3) HB17F.out rfl
            have y4 := cell_bk (j := 4) HB17F.out rfl
            simp only [List.getElem_toArray, List.getElem_cons_zero, List.getElem_cons_succ] at y0 y1 y2 y3 y4
            have hes := HES.out
            have hgk := HG.out
            have hw1 : IntKind.u64.wrap ((gen : Int) + 1) = (gen : Int) + 1 := by rw [IntKind.wrap_u64]; omega
            clear hgk hb12 hba hbx HBB HSU HWB HB17F HES HG
            by_cases hz : e0 = 0
            · have hs := (hes.resolve_right (fun h => h.1 hz)).2
              simp only [Sup.next, Sup.mk.injEq] at hs
              obtain ⟨hsg, rfl, rfl, rfl, rfl⟩ := hs
              have hsg2 : ((sg : Int) == (gen : Int) + 1) = true := by rw [hsg]; simp
              clear hsg
              subst hz
              clear hes
              go_wp2
              go_ret
              exact ⟨rfl, HWF.out⟩
            · have hs := (hes.resolve_left (fun h => hz h.1)).2
              simp only [Sup.mk.injEq] at hs
              obtain ⟨rfl, rfl, rfl, rfl, rfl⟩ := hs
              have hz2 : (e0 == 0) = false := by simpa using hz
              clear hes hz
              go_wp2
              go_ret
              exact ⟨rfl, HWF.out⟩
          · have hne : (er != 0) = true := by simpa using her
            have C10 := hide (HDN.out her w10 HDA.out)
            have HWF := hide HDA.out.b
            clear HOK HDN HDA her
            go_wp2_with fail
            refine C10.out.mono ?_
            rintro e w11 ⟨rfl, rfl⟩
            go_wp2
            go_ret
            exact ⟨rfl, HWF.out⟩
    · have HZ : Hid ((st0.fmt n J).2 = 2) := hide (by rw [St.fmt, if_neg hf])
      rw [HZ.out] at HFM
      clear hf
      go_wp2_with fail
      refine HFM.out.mono ?_
      rintro e w3 ⟨rfl, hd3⟩
      have HB := hide hd3.b
      clear hd3 HFM
      go_wp2
      go_ret
      exact ⟨rfl, HB.out⟩
  · have HNO := hide (fun W => new_no W N hn)
    clear hn
    go_enter Try.func4, Try.ntmps4
    go_wp2_with fail
    refine (lives_any w).mono ?_
    rintro e w1 ⟨rfl, hb1⟩
    have HB1 := hide hb1
    clear hb1
    go_wp2_with fail
    refine (HNO.out w1).mono ?_
    rintro e w2 ⟨rfl, rfl⟩
    go_wp2_with fail
    refine (format_nil J w2).mono ?_
    rintro e w3 ⟨rfl, rfl⟩
    go_wp2
    go_ret
    exact ⟨rfl, HB1.out⟩
end Go.Proofs.Ytecmfpgccmmlpaa

/- the document's read -/
import Derived.Test.YtebikoekpbnpbaaDT
namespace Go.Proofs.Ytebikoekpbnpbaa
open Go.RowKit Cod
set_option maxRecDepth 100000
set_option linter.unusedVariables false
set_option linter.unusedSimpArgs false
theorem rdText_len {most : Nat} {R s R' : List Nat} (h : rdText most R = .ok (s, R')) : s.length ≤ most := by
  unfold rdText at h
  split at h
  · cases h
  · split at h
    · cases h
    · split at h
      · cases h
      · cases h
        rw [List.length_take]
        omega
theorem rd_len : ∀ (l : List Nat) (i acc m : Nat) (r : List Nat), rd i acc l = some (m, r) → r.length ≤ l.length := by
  intro l
  induction l with
  | nil => intro i acc m r h; rw [rd_nil] at h; cases h
  | cons x t ih =>
    intro i acc m r h
    rw [rd] at h
    split at h
    · cases h
    · split at h
      · cases h
      · split at h
        · split at h
          · cases h
          · cases h
            simp
        · have := ih _ _ _ _ h
          simp only [List.length_cons]
          omega
theorem rdNum_rest {R R' : List Nat} {n : Nat} (h : rdNum R = some (n, R')) : R'.length ≤ R.length := rd_len R 0 0 n R' h
theorem rdText_rest {most : Nat} {R s R' : List Nat} (h : rdText most R = .ok (s, R')) : R'.length ≤ R.length := by
  unfold rdText at h
  split at h
  · cases h
  · rename_i n r hn
    have h9 := rdNum_rest hn
    split at h
    · cases h
    · split at h
      · cases h
      · cases h
        rw [List.length_drop]
        omega
set_option maxHeartbeats 8000000 in
theorem read40L (b off c n : Nat) (T : List Nat) (w : World) (h : IsB w (some ⟨b, off, none⟩) n c T) (h1 : 1 < n) (h2 : n ≤ 4097) (hx : T.getD 0 0 = 1) :
    Calls Try.prog 40 #[.slice (some ⟨b, off, none⟩) n c] w fun e w' => Page38 T w e w' := by
  have hc1 : n ≤ c := h.2.1
  have hc2 : c ≤ 9223372036854775807 := h.2.2.1
  have HX0 := hide hx
  obtain ⟨Wz, hWz⟩ : ∃ W, W = w.alloc (.cells #[.bool false, .slice none 0 0, .slice none 0 0, .slice none 0 0] 25) := ⟨_, rfl⟩
  have HSZ : Hid (Wz.heap.size = w.heap.size + 1) := hide (by rw [hWz]; simp)
  have HB : Hid (Wz.heap[w.heap.size]? = some (.cells #[.bool false, .slice none 0 0, .slice none 0 0, .slice none 0 0] 25 (0, 0))) := hide (by rw [hWz, heap_alloc_new])
  have HBz : Hid (Below w.heap.size w Wz) := hide (by rw [hWz]; exact belowN _ _)
  have z0 : Wz.cell? ⟨b, off, none⟩ = some (.int .u8 1) := by
    rcases (h.below HBz.out).2.2.2.2 with ⟨h0, _⟩ | ⟨b', off', e, _, hc⟩
    · omega
    · cases e
      have := hc 0 (by omega)
      rw [hx] at this
      exact this
  rw [hWz] at z0
  obtain ⟨Wp, hWp⟩ : ∃ W, W = Wz.alloc (.cells #[.bool true, .slice none 0 0, .slice none 0 0, .slice none 0 0] 25) := ⟨_, rfl⟩
  have hbp : Below Wz.heap.size Wz Wp := by rw [hWp]; exact belowN _ _
  have HBP : Hid (Below w.heap.size w Wp) := hide (HBz.out.trans (hbp.mono HBz.out.size))
  have HTL : Hid (∀ x ∈ T.drop 1, x < 256) := hide (mem_drop h.2.2.2.1)
  have HTN : Hid ((T.drop 1).length ≤ 4096) := hide (by rw [List.length_drop, h.1]; omega)
  have HN := hide (refReadNum_any (some ⟨b, off + 1, none⟩) (n - 1) (c - 1) (T.drop 1) Wp (IsB.back (h.below HBP.out) 1 (by omega)) (by omega))
  have HTN1 : Hid ((T.drop 1).length = n - 1) := hide (by rw [List.length_drop, h.1])
  have HRF : Hid (RfS Wz Wp (w.heap.size + 1) (w.heap.size + 1) true Pv0 [] [] []) := hide
    ⟨by show Wp.heap[w.heap.size + 1]? = _; rw [hWp, ← HSZ.out, heap_alloc_new]; rfl, ⟨[], World.ownsRow_nil _ _ _ _, rfl, fun i hi => by simp at hi⟩, ⟨[], World.ownsRow_nil _ _ _ _, rfl, fun i hi => by simp at hi⟩, World.ownsRow_nil _ _ _ _, ⟨rfl, rfl, rfl⟩, (by intro b e; cases e), nofun, hbp, ⟨by have := HSZ.out; omega, by have := HSZ.out; omega⟩, nofun, nofun⟩
  have hn0 : ((n : Int) == 0) = false := by simpa using (show ¬ (n : Int) = 0 by omega)
  have hn1 : ¬ (n : Int) = 0 := by omega
  have hn2 : (0 : Int) < (n : Int) := by omega
  have hi1 : (1 : Int) ≤ (n : Int) := by omega
  have hi2 : (n : Int) ≤ (c : Int) := by omega
  clear h hbp
  go_enter Try.func40, Try.ntmps40
  go_wp2_with fail
  try rw [← hWz]
  try rw [← hWp]
  clear hWz hWp z0
  refine HN.out.mono ?_
  rintro e w1 ⟨(⟨cnt, p', v, hn, hm, hp, rfl, hown⟩ | ⟨hn, rfl⟩), hb⟩
  case inr =>
    have HNO := hide hn
    have HW1 : Hid (w1.heap[w.heap.size]? = some (.cells #[.bool false, .slice none 0 0, .slice none 0 0, .slice none 0 0] 25 (0, 0))) := hide ((hb.block _ (by have := HBP.out.size; have := heap_ltN HRF.out.blk; omega)).trans ((HRF.out.gr.block _ (heap_ltN HB.out)).trans HB.out))
    have HV1 : Hid (Below w.heap.size w w1) := hide (HBP.out.trans (hb.mono HBP.out.size))
    clear hn hb HN
    have y0 : w1.cell? ⟨w.heap.size, 0, none⟩ = some (.bool false) := cell_blkN HW1.out rfl
    have y1 : w1.cell? ⟨w.heap.size, 1, none⟩ = some (.slice none 0 0) := cell_blkN HW1.out rfl
    have y2 : w1.cell? ⟨w.heap.size, 2, none⟩ = some (.slice none 0 0) := cell_blkN HW1.out rfl
    have y3 : w1.cell? ⟨w.heap.size, 3, none⟩ = some (.slice none 0 0) := cell_blkN HW1.out rfl
    have f0 := frzN HW1.out 0
    have f1 := frzN HW1.out 1
    have f2 := frzN HW1.out 2
    have f3 := frzN HW1.out 3
    go_wp2_with fail
    (try simp only [Exit.inBlock, Exit.then])
    refine bodyPost_ret (resP2 rfl _ _ w.heap.size #[.bool false, .slice none 0 0, .slice none 0 0, .slice none 0 0] (blk4 HW1.out _ _ _ _) rfl rfl) rfl ?_
    exact ⟨Pv0, Pg0, false, rfl, nwG_0 _ _, by unfold FewP Pv0; decide, ⟨nofun, nofun⟩, fun q pad h1 h2 => (rhead_none HNO.out h1 h2).elim, below4 HV1.out (Nat.le_refl _) _ _ _ _⟩
  case inl =>
  obtain ⟨a1, c1, rfl, hI, hNB, hab⟩ := own_new hown (mem_drop HTL.out)
  obtain ⟨R1, hR1⟩ : ∃ R, R = (T.drop 1).drop p' := ⟨_, rfl⟩
  have hlen : n - 1 - p' = R1.length := by rw [hR1, List.length_drop, HTN1.out]
  rw [← hR1] at hI hn
  rw [hlen] at hI ⊢
  have HNO := hide hn
  have HCN : Hid (cnt < 18446744073709551616) := hide hm
  have HRS : Hid (RstI w1 a1 R1.length c1 R1) := hide ⟨hI, newB_le hNB (Nat.zero_le _)⟩
  have HRL : Hid (R1.length ≤ 4096) := hide (by rw [hR1, List.length_drop]; have := HTN.out; omega)
  have HRF1 := hide (HRF.out.below hb)
  clear hn hm hp hown hb hI hNB hab hR1 hlen HN HRF
  by_cases hbig : 4096 < cnt
  · have hd1 : (4096 : Int) < (cnt : Int) := by omega
    have HBG := hide hbig
    have HW1 : Hid (w1.heap[w.heap.size]? = some (.cells #[.bool false, .slice none 0 0, .slice none 0 0, .slice none 0 0] 25 (0, 0))) := hide ((HRF1.out.gr.block _ (heap_ltN HB.out)).trans HB.out)
    have HV1 : Hid (Below w.heap.size w w1) := hide (HBz.out.trans (HRF1.out.gr.mono HBz.out.size))
    clear hbig
    have y0 : w1.cell? ⟨w.heap.size, 0, none⟩ = some (.bool false) := cell_blkN HW1.out rfl
    have y1 : w1.cell? ⟨w.heap.size, 1, none⟩ = some (.slice none 0 0) := cell_blkN HW1.out rfl
    have y2 : w1.cell? ⟨w.heap.size, 2, none⟩ = some (.slice none 0 0) := cell_blkN HW1.out rfl
    have y3 : w1.cell? ⟨w.heap.size, 3, none⟩ = some (.slice none 0 0) := cell_blkN HW1.out rfl
    have f0 := frzN HW1.out 0
    have f1 := frzN HW1.out 1
    have f2 := frzN HW1.out 2
    have f3 := frzN HW1.out 3
    go_wp2_with fail
    (try simp only [Exit.inBlock, Exit.then])
    refine bodyPost_ret (resP2 rfl _ _ w.heap.size #[.bool false, .slice none 0 0, .slice none 0 0, .slice none 0 0] (blk4 HW1.out _ _ _ _) rfl rfl) rfl ?_
    exact ⟨Pv0, Pg0, false, rfl, nwG_0 _ _, by unfold FewP Pv0; decide, ⟨nofun, nofun⟩, fun q pad h1 h2 => by have h3 := (check_few h1).1; have h4 := HBG.out; cases hl : q.leaf with | true => (have := (rhead_leaf HNO.out h1 hl h2).1; omega) | false => (have := (rhead_inner HNO.out h1 hl h2).1; omega), below4 HV1.out (Nat.le_refl _) _ _ _ _⟩
  have hbig2 : ¬ (4096 : Int) < (cnt : Int) := by omega
  have HCB : Hid (cnt ≤ 4096) := hide (by omega)
  clear hbig
  obtain ⟨p0, _⟩ := BlkG.cells HRF1.out.blk
  go_wp2_with fail
  clear p0 hbig2 hn0 hn1 hn2 hi1 hi2 hc1 hc2
  go_loopw [6, 11] (fun v6 v11 W => ∃ (k : Nat) (v : Pv) (keys vals : List (List Nat)) (R : List Nat) (ra : Option Addr) (rc : Nat), v6 = .slice ra R.length rc ∧ v11 = .int .u64 (k : Nat) ∧ k ≤ cnt ∧ Hid (RfS Wz W (w.heap.size + 1) (w.heap.size + 1) true v keys vals [] ∧ RstI W ra R.length rc R ∧ R.length ≤ 4096 ∧ keys.length = k ∧ vals.length = k ∧ LeafAt cnt R1 k keys vals R false)) (fun _ v11 _ => cnt - (intOf v11).toNat)
  case atStart => exact ⟨0, Pv0, [], [], R1, a1, c1, rfl, rfl, Nat.zero_le _, hide ⟨HRF1.out, HRS.out, HRL.out, rfl, rfl, leafAt_0 _ _⟩⟩
  case round =>
    obtain ⟨k, v, keys, vals, R, ra, rc, rfl, rfl, hkc, HI⟩ := hrel
    by_cases hlt : k < cnt
    case neg =>
      have hnl : ¬ ((k : Nat) : Int) < ((cnt : Nat) : Int) := by omega
      have HLS := hide HI.out.1
      have HLN : Hid (keys.length = k ∧ vals.length = k ∧ k ≤ cnt) := hide ⟨HI.out.2.2.2.1, HI.out.2.2.2.2.1, hkc⟩
      have HQ : Hid (∀ q pad, checkE q = 0 → T = textP q ++ pad → (⟨true, keys, vals, []⟩ : Pg) = q) := hide (fun q pad h1 h2 => by
        have h0 := rhead_0 h2
        rw [HX0.out] at h0
        cases hl : q.leaf with
        | false => rw [hl] at h0; cases h0
        | true =>
          obtain ⟨e1, e2⟩ := rhead_leaf HNO.out h1 hl h2
          obtain ⟨e4, e5, _⟩ := leafAt_end HI.out.2.2.2.2.2 (.inr hlt) h1 hl e1.symm e2
          rw [e4, e5]
          have e7 := (leaf_vals h1 hl).2
          cases q
          simp only at hl e7
          rw [hl, e7])
      clear HI
      have HBW : Hid (wr.heap[w.heap.size]? = some (.cells #[.bool false, .slice none 0 0, .slice none 0 0, .slice none 0 0] 25 (0, 0))) := hide ((HLS.out.gr.block _ (heap_ltN HB.out)).trans HB.out)
      have HVW : Hid (Below w.heap.size w wr) := hide (HBz.out.trans (HLS.out.gr.mono HBz.out.size))
      have HFW : Hid (FewP v) := hide (by have h1 := HLS.out.lk; have h2 := HLN.out; have h3 := HCB.out; simp only [List.length_nil] at h1; unfold FewP; omega)
      obtain ⟨p0, p1, p2, p3⟩ := BlkG.cells HLS.out.blk
      have y0 : wr.cell? ⟨w.heap.size, 0, none⟩ = some (.bool false) := cell_blkN HBW.out rfl
      have y1 : wr.cell? ⟨w.heap.size, 1, none⟩ = some (.slice none 0 0) := cell_blkN HBW.out rfl
      have y2 : wr.cell? ⟨w.heap.size, 2, none⟩ = some (.slice none 0 0) := cell_blkN HBW.out rfl
      have y3 : wr.cell? ⟨w.heap.size, 3, none⟩ = some (.slice none 0 0) := cell_blkN HBW.out rfl
      have f0 := frzN HBW.out 0
      have f1 := frzN HBW.out 1
      have f2 := frzN HBW.out 2
      have f3 := frzN HBW.out 3
      go_wp2_with fail
      (try simp only [Exit.inBlock, Exit.then])
      refine bodyPost_ret (resP2 rfl _ _ w.heap.size #[.bool true, .slice v.ka v.kn v.kc, .slice v.va v.vn v.vc, .slice v.ia v.inn v.ic] (blk4 HBW.out _ _ _ _) rfl rfl) rfl ?_
      exact ⟨v, ⟨true, keys, vals, []⟩, true, rfl, HLS.out.fin (by omega) (by omega) _ _ _ _, HFW.out, HLS.out.sh, fun q pad h1 h2 => ⟨rfl, HQ.out q pad h1 h2⟩, below4 HVW.out (Nat.le_refl _) _ _ _ _⟩
    case pos =>
      have hkI : ((k : Nat) : Int) < ((cnt : Nat) : Int) := by omega
      have HLS := hide HI.out.1
      have HKL : Hid (v.kn = k ∧ v.vn = k ∧ k ≤ cnt) := hide ⟨by rw [← HI.out.2.2.2.1]; exact HI.out.1.lk.1.symm, by rw [← HI.out.2.2.2.2.1]; exact HI.out.1.lk.2.1.symm, hkc⟩
      have HAT := hide HI.out.2.2.2.2.2
      have HLN : Hid (keys.length = k ∧ vals.length = k) := hide ⟨HI.out.2.2.2.1, HI.out.2.2.2.2.1⟩
      have HEN := hide (entry74 256 (by decide) ra R.length rc R wr HI.out.2.1.1 HI.out.2.2.1)
      have HRLn := hide HI.out.2.2.1
      have hwk : IntKind.u64.wrap ((k : Int) + 1) = (((k + 1 : Nat) : Nat) : Int) := by rw [IntKind.wrap_u64]; omega
      obtain ⟨ka, kn, kc, va, vn, vc, ia, inn, ic⟩ := v
      dsimp only at HKL
      clear HI
      go_wp2_with fail
      refine HEN.out.mono ?_
      rintro e w2 ⟨(⟨s1, R2, sa1, cs, ar, cr, hok, rfl, hIs, hNs, hIr, hNr⟩ | ⟨⟨z, hno⟩, rfl⟩), hb2⟩
      case inr =>
        have HNX := hide hno
        have HLS2 := hide (HLS.out.below hb2)
        have HW2 : Hid (w2.heap[w.heap.size]? = some (.cells #[.bool false, .slice none 0 0, .slice none 0 0, .slice none 0 0] 25 (0, 0))) := hide ((HLS2.out.gr.block _ (heap_ltN HB.out)).trans HB.out)
        have HV2 : Hid (Below w.heap.size w w2) := hide (HBz.out.trans (HLS2.out.gr.mono HBz.out.size))
        have HQ : Hid (∀ q pad, checkE q = 0 → T = textP q ++ pad → False) := hide (fun q pad h1 h2 => by
          have h0 := rhead_0 h2
          rw [HX0.out] at h0
          cases hl : q.leaf with
          | false => rw [hl] at h0; cases h0
          | true =>
            obtain ⟨e1, e2⟩ := rhead_leaf HNO.out h1 hl h2
            exact leafAt_noK HAT.out hlt HNX.out q pad h1 hl e1.symm e2)
        clear hno hb2 HEN
        have y0 : w2.cell? ⟨w.heap.size, 0, none⟩ = some (.bool false) := cell_blkN HW2.out rfl
        have y1 : w2.cell? ⟨w.heap.size, 1, none⟩ = some (.slice none 0 0) := cell_blkN HW2.out rfl
        have y2 : w2.cell? ⟨w.heap.size, 2, none⟩ = some (.slice none 0 0) := cell_blkN HW2.out rfl
        have y3 : w2.cell? ⟨w.heap.size, 3, none⟩ = some (.slice none 0 0) := cell_blkN HW2.out rfl
        have f0 := frzN HW2.out 0
        have f1 := frzN HW2.out 1
        have f2 := frzN HW2.out 2
        have f3 := frzN HW2.out 3
        go_wp2_with fail
        (try simp only [Exit.inBlock, Exit.then])
        refine bodyPost_ret (resP2 rfl _ _ w.heap.size #[.bool false, .slice none 0 0, .slice none 0 0, .slice none 0 0] (blk4 HW2.out _ _ _ _) rfl rfl) rfl ?_
        exact ⟨Pv0, Pg0, false, rfl, nwG_0 _ _, by unfold FewP Pv0; decide, ⟨nofun, nofun⟩, fun q pad h1 h2 => (HQ.out q pad h1 h2).elim, below4 HV2.out (Nat.le_refl _) _ _ _ _⟩
      case inl =>
      have HOK := hide hok
      have HLSa := hide (HLS.out.below hb2)
      have HSa : Hid (IsB w2 sa1 s1.length cs s1 ∧ NewB w2 wr.heap.size sa1 ∧ s1.length ≤ 1024) := hide ⟨hIs, hNs, by have := rdText_len hok; omega⟩
      have HRSa : Hid (RstI w2 ar R2.length cr R2) := hide ⟨hIr, newB_le hNr (Nat.zero_le _)⟩
      have HR2n : Hid (R2.length ≤ 4096) := hide (by have := rdText_rest hok; have := HRLn.out; omega)
      have HWR : Hid (Wz.heap.size ≤ wr.heap.size) := hide HLS.out.gr.size
      clear hok hIs hNs hIr hNr hb2 HEN
      have HW2a := hide (HLSa.out.below (belowN w2 (.cells #[.slice sa1 s1.length cs] 26)))
      have HRS2a := hide (HRSa.out.below (belowN w2 (.cells #[.slice sa1 s1.length cs] 26)))
      obtain ⟨xs, hxs⟩ := HW2a.out.k
      have Hxs := hide hxs
      have HQa := hide (heap_alloc_new w2 (.cells #[.slice sa1 s1.length cs] 26))
      obtain ⟨ua, W3a, hrun, hoa, hga, hora⟩ := run_push26 (w := w2.alloc (.cells #[.slice sa1 s1.length cs] 26)) 22 (w.heap.size + 1) (.slice ka kn kc) kn xs hxs.own w2.heap.size _ HQa.out rfl (by have := HKL.out; have := HCB.out; omega) (by have := HSZ.out; have := HW2a.out.gr.size; omega)
      obtain ⟨kaa, kca, rfl⟩ := own_formN hoa
      have HPSa := hide (HW2a.out.pushK (HSa.out.1.below (belowN _ _)) (newB_le (HSa.out.2.1.below (belowN _ _)) (by have := HSZ.out; have := HWR.out; omega)) HSa.out.2.2 Hxs.out hoa hga hora)
      have HXPa := rf_blk HW2a.out hga Hxs.out.own (by decide)
      have HRPa := hide (HRS2a.out.push hga Hxs.out.own (by decide) HXPa 1 (.slice kaa (kn + 1) kca))
      obtain ⟨q0, q1, q2, q3⟩ := BlkG.cells HLSa.out.blk
      have x1 : W3a.cell? ⟨w.heap.size + 1, 1, none⟩ = some (.slice ka kn kc) := cell_blkN HXPa rfl
      have g1 := frzN HXPa 1
      have x0 : W3a.cell? ⟨w.heap.size + 1, 0, none⟩ = some (.bool true) := cell_blkN HXPa rfl
      clear hxs hoa hga hora HXPa
      go_wp2_with (at_builtin; refine Go.Lib.wpList_append_run _ rfl _ _ _ _ rfl _ _ rfl rfl _ _ hrun ?_)
      obtain ⟨V5, hV5⟩ : ∃ V, V = W3a.setCell ⟨w.heap.size + 1, 1, none⟩ (.slice kaa (kn + 1) kca) := ⟨_, rfl⟩
      have HL5 : Hid (RfS Wz V5 (w.heap.size + 1) (w.heap.size + 1) true ⟨kaa, kn + 1, kca, va, vn, vc, ia, inn, ic⟩ (keys ++ [s1]) vals []) := hide (by rw [hV5]; exact HPSa.out)
      have HR5 : Hid (RstI V5 ar R2.length cr R2) := hide (by rw [hV5]; exact HRPa.out)
      have HW5 : Hid (Wz.heap.size ≤ V5.heap.size) := hide HL5.out.gr.size
      rw [← hV5]
      clear hV5 HPSa HRPa HW2a HRS2a Hxs HQa hrun q0 q1 q2 q3 x1 g1 x0 HLSa HSa HRSa
      have HEN2 := hide (entry74 512 (by decide) ar R2.length cr R2 V5 HR5.out.1 HR2n.out)
      refine HEN2.out.mono ?_
      rintro e w6 ⟨(⟨s2, R3, at', ct, au, cu, hok, rfl, hIs, hNs, hIr, hNr⟩ | ⟨⟨z, hno⟩, rfl⟩), hb6⟩
      case inr =>
        have HNX := hide hno
        have HLS2 := hide (HL5.out.below hb6)
        have HW2 : Hid (w6.heap[w.heap.size]? = some (.cells #[.bool false, .slice none 0 0, .slice none 0 0, .slice none 0 0] 25 (0, 0))) := hide ((HLS2.out.gr.block _ (heap_ltN HB.out)).trans HB.out)
        have HV2 : Hid (Below w.heap.size w w6) := hide (HBz.out.trans (HLS2.out.gr.mono HBz.out.size))
        have HQ : Hid (∀ q pad, checkE q = 0 → T = textP q ++ pad → False) := hide (fun q pad h1 h2 => by
          have h0 := rhead_0 h2
          rw [HX0.out] at h0
          cases hl : q.leaf with
          | false => rw [hl] at h0; cases h0
          | true =>
            obtain ⟨e1, e2⟩ := rhead_leaf HNO.out h1 hl h2
            exact leafAt_noV HAT.out hlt HOK.out HNX.out q pad h1 hl e1.symm e2)
        clear hno hb6 HEN2
        have y0 : w6.cell? ⟨w.heap.size, 0, none⟩ = some (.bool false) := cell_blkN HW2.out rfl
        have y1 : w6.cell? ⟨w.heap.size, 1, none⟩ = some (.slice none 0 0) := cell_blkN HW2.out rfl
        have y2 : w6.cell? ⟨w.heap.size, 2, none⟩ = some (.slice none 0 0) := cell_blkN HW2.out rfl
        have y3 : w6.cell? ⟨w.heap.size, 3, none⟩ = some (.slice none 0 0) := cell_blkN HW2.out rfl
        have f0 := frzN HW2.out 0
        have f1 := frzN HW2.out 1
        have f2 := frzN HW2.out 2
        have f3 := frzN HW2.out 3
        go_wp2_with fail
        (try simp only [Exit.inBlock, Exit.then])
        refine bodyPost_ret (resP2 rfl _ _ w.heap.size #[.bool false, .slice none 0 0, .slice none 0 0, .slice none 0 0] (blk4 HW2.out _ _ _ _) rfl rfl) rfl ?_
        exact ⟨Pv0, Pg0, false, rfl, nwG_0 _ _, by unfold FewP Pv0; decide, ⟨nofun, nofun⟩, fun q pad h1 h2 => (HQ.out q pad h1 h2).elim, below4 HV2.out (Nat.le_refl _) _ _ _ _⟩
      case inl =>
      have HOK2 := hide hok
      have HLSb := hide (HL5.out.below hb6)
      have HSb : Hid (IsB w6 at' s2.length ct s2 ∧ NewB w6 V5.heap.size at' ∧ s2.length ≤ 1024) := hide ⟨hIs, hNs, by have := rdText_len hok; omega⟩
      have HRSb : Hid (RstI w6 au R3.length cu R3) := hide ⟨hIr, newB_le hNr (Nat.zero_le _)⟩
      have HR3n : Hid (R3.length ≤ 4096) := hide (by have := rdText_rest hok; have := HR2n.out; omega)
      clear hok hIs hNs hIr hNr hb6 HEN2
      have HW2b := hide (HLSb.out.below (belowN w6 (.cells #[.slice at' s2.length ct] 26)))
      have HRS2b := hide (HRSb.out.below (belowN w6 (.cells #[.slice at' s2.length ct] 26)))
      obtain ⟨ys, hys⟩ := HW2b.out.x
      have Hys := hide hys
      have HQb := hide (heap_alloc_new w6 (.cells #[.slice at' s2.length ct] 26))
      obtain ⟨ub, W3b, hrun, hob, hgb, horb⟩ := run_push26 (w := w6.alloc (.cells #[.slice at' s2.length ct] 26)) 22 (w.heap.size + 1) (.slice va vn vc) vn ys hys.own w6.heap.size _ HQb.out rfl (by have := HKL.out; have := HCB.out; omega) (by have := HSZ.out; have := HW2b.out.gr.size; omega)
      obtain ⟨kab, kcb, rfl⟩ := own_formN hob
      have HPSb := hide (HW2b.out.pushV (HSb.out.1.below (belowN _ _)) (newB_le (HSb.out.2.1.below (belowN _ _)) (by have := HSZ.out; have := HW5.out; omega)) HSb.out.2.2 Hys.out hob hgb horb)
      have HXPb := rf_blk HW2b.out hgb Hys.out.own (by decide)
      have HRPb := hide (HRS2b.out.push hgb Hys.out.own (by decide) HXPb 2 (.slice kab (vn + 1) kcb))
      obtain ⟨q0, q1, q2, q3⟩ := BlkG.cells HLSb.out.blk
      have x2 : W3b.cell? ⟨w.heap.size + 1, 2, none⟩ = some (.slice va vn vc) := cell_blkN HXPb rfl
      have g2 := frzN HXPb 2
      have x0 : W3b.cell? ⟨w.heap.size + 1, 0, none⟩ = some (.bool true) := cell_blkN HXPb rfl
      clear hys hob hgb horb HXPb
      go_wp2_with (at_builtin; refine Go.Lib.wpList_append_run _ rfl _ _ _ _ rfl _ _ rfl rfl _ _ hrun ?_)
      obtain ⟨V7, hV7⟩ : ∃ V, V = W3b.setCell ⟨w.heap.size + 1, 2, none⟩ (.slice kab (vn + 1) kcb) := ⟨_, rfl⟩
      have HNX : Hid (RfS Wz V7 (w.heap.size + 1) (w.heap.size + 1) true ⟨kaa, kn + 1, kca, kab, vn + 1, kcb, ia, inn, ic⟩ (keys ++ [s1]) (vals ++ [s2]) [] ∧ RstI V7 au R3.length cu R3 ∧ R3.length ≤ 4096 ∧ (keys ++ [s1]).length = k + 1 ∧ (vals ++ [s2]).length = k + 1 ∧ LeafAt cnt R1 (k + 1) (keys ++ [s1]) (vals ++ [s2]) R3 false) := hide ⟨by rw [hV7]; exact HPSb.out, by rw [hV7]; exact HRPb.out, HR3n.out, by rw [List.length_append, HLN.out.1]; rfl, by rw [List.length_append, HLN.out.2]; rfl, leafAt_stepR HAT.out hlt HOK.out HOK2.out⟩
      rw [← hV7]
      clear hV7 HPSb HRPb HW2b HRS2b Hys HQb hrun q0 q1 q2 q3 x2 g2 x0 HLSb HSb HRSb HL5 HR5 HAT HOK HOK2
      go_wp2_with fail
      go_roundw
      case rel => exact ⟨k + 1, _, _, _, R3, _, _, rfl, rfl, by omega, HNX⟩
      case measure => simp [intOf]; omega
end Go.Proofs.Ytebikoekpbnpbaa

/- DW DX -/
import Derived.Test.YtebikoekpbnpbaaDV
import Derived.Test.YtebikoekpbnpbaaDI
/- the document's read -/
namespace Go.Proofs.Ytebikoekpbnpbaa
open Go.RowKit Cod
set_option maxRecDepth 100000
set_option linter.unusedVariables false
set_option linter.unusedSimpArgs false
set_option maxHeartbeats 4000000 in
theorem read40N (b off c n : Nat) (T : List Nat) (w : World) (h : IsB w (some ⟨b, off, none⟩) n c T) (h1 : 1 < n) (h2 : n ≤ 4097) (hx1 : ¬ T.getD 0 0 = 1) (hx2 : ¬ T.getD 0 0 = 2) :
    Calls Try.prog 40 #[.slice (some ⟨b, off, none⟩) n c] w fun e w' => Page38 T w e w' := by
  have hc1 : n ≤ c := h.2.1
  have hc2 : c ≤ 9223372036854775807 := h.2.2.1
  obtain ⟨Wz, hWz⟩ : ∃ W, W = w.alloc (.cells #[.bool false, .slice none 0 0, .slice none 0 0, .slice none 0 0] 25) := ⟨_, rfl⟩
  have HB : Hid (Wz.heap[w.heap.size]? = some (.cells #[.bool false, .slice none 0 0, .slice none 0 0, .slice none 0 0] 25 (0, 0))) := hide (by rw [hWz, heap_alloc_new])
  have HBz : Hid (Below w.heap.size w Wz) := hide (by rw [hWz]; exact belowN _ _)
  obtain ⟨x, hx⟩ : ∃ x, x = T.getD 0 0 := ⟨_, rfl⟩
  have z0 : Wz.cell? ⟨b, off, none⟩ = some (.int .u8 (x : Nat)) := by
    rcases (h.below HBz.out).2.2.2.2 with ⟨h0, _⟩ | ⟨b', off', e, _, hc⟩
    · omega
    · cases e
      have := hc 0 (by omega)
      rw [← hx] at this
      exact this
  rw [← hx] at hx1 hx2
  have HQ : Hid (∀ q pad, checkE q = 0 → T = textP q ++ pad → False) := hide (fun q pad h1 h2 => by
    have h0 := rhead_0 h2
    rw [← hx] at h0
    cases hl : q.leaf with
    | true => rw [hl] at h0; exact hx1 h0
    | false => rw [hl] at h0; exact hx2 h0)
  have y0 : Wz.cell? ⟨w.heap.size, 0, none⟩ = some (.bool false) := cell_blkN HB.out rfl
  have y1 : Wz.cell? ⟨w.heap.size, 1, none⟩ = some (.slice none 0 0) := cell_blkN HB.out rfl
  have y2 : Wz.cell? ⟨w.heap.size, 2, none⟩ = some (.slice none 0 0) := cell_blkN HB.out rfl
  have y3 : Wz.cell? ⟨w.heap.size, 3, none⟩ = some (.slice none 0 0) := cell_blkN HB.out rfl
  have f0 := frzN HB.out 0
  have f1 := frzN HB.out 1
  have f2 := frzN HB.out 2
  have f3 := frzN HB.out 3
  rw [hWz] at z0 y0 y1 y2 y3 f0 f1 f2 f3
  have hd1 : ((x : Int) == 1) = false := by simpa using (show ¬ (x : Int) = 1 by omega)
  have hd2 : ((x : Int) == 2) = false := by simpa using (show ¬ (x : Int) = 2 by omega)
  have hd3 : ((x : Int) != 1) = true := by simpa using (show ¬ (x : Int) = 1 by omega)
  have hd4 : ((x : Int) != 2) = true := by simpa using (show ¬ (x : Int) = 2 by omega)
  have hn0 : ((n : Int) == 0) = false := by simpa using (show ¬ (n : Int) = 0 by omega)
  have hn1 : ¬ (n : Int) = 0 := by omega
  have hn2 : (0 : Int) < (n : Int) := by omega
  clear h hx hx1 hx2
  go_enter Try.func40, Try.ntmps40
  go_wp2_with fail
  try rw [← hWz]
  (try simp only [Exit.inBlock, Exit.then])
  refine bodyPost_ret (resP2 rfl _ _ w.heap.size #[.bool false, .slice none 0 0, .slice none 0 0, .slice none 0 0] HB.out rfl rfl) rfl ?_
  exact ⟨Pv0, Pg0, false, rfl, nwG_0 _ _, by unfold FewP Pv0; decide, ⟨nofun, nofun⟩, fun q pad h1 h2 => (HQ.out q pad h1 h2).elim, HBz.out⟩
/-- ladingref06.read -/
theorem read40 (b off c n : Nat) (T : List Nat) (w : World) (h : IsB w (some ⟨b, off, none⟩) n c T) (h1 : 1 < n) (h2 : n ≤ 4097) :
    Calls Try.prog 40 #[.slice (some ⟨b, off, none⟩) n c] w fun e w' => Page38 T w e w' := by
  by_cases hx1 : T.getD 0 0 = 1
  · exact read40L b off c n T w h h1 h2 hx1
  · by_cases hx2 : T.getD 0 0 = 2
    · exact read40I b off c n T w h h1 h2 hx2
    · exact read40N b off c n T w h h1 h2 hx1 hx2
end Go.Proofs.Ytebikoekpbnpbaa
/- the document's Decode -/
namespace Go.Proofs.Ytebikoekpbnpbaa
open Go.RowKit Cod
set_option maxRecDepth 100000
set_option linter.unusedVariables false
set_option linter.unusedSimpArgs false
theorem isK_kept {w w' : World} {a : Option Addr} {n c : Nat} {l : List Int} (h : IsK w a n c l) (hs : w.heap.size ≤ w'.heap.size) (hk : ∀ b off, a = some ⟨b, off, none⟩ → w'.heap[b]? = w.heap[b]?) : IsK w' a n c l := by
  obtain ⟨h1, h2, h3, h4, h5⟩ := h
  refine ⟨h1, h2, h3, h4, fun i hi => ?_⟩
  obtain ⟨ht, b, off, e, hlt, h0⟩ := h5 i hi
  exact ⟨ht, b, off, e, Nat.lt_of_lt_of_le hlt hs, (World.cell?_of_block (hk b off e)).trans h0⟩
theorem Cpy.isG4 {w : World} {G : Nat} {v : Pv} {p : Pg} {xs ys : List Value} {M : Nat} (h : Cpy w G v p xs ys M) {B : Nat} (hB : B < G) (x0 x1 x2 x3 : Value) : IsG (set4 w B x0 x1 x2 x3) v p := by
  obtain ⟨a1, c1, e, hL, _⟩ := (h.rk.set4 (B := B) hB x0 x1 x2 x3).isL h.lk.1
  obtain ⟨a2, c2, e', hL', _⟩ := (h.rv.set4 (B := B) hB x0 x1 x2 x3).isL h.lk.2
  have hK := isK_kept (w' := set4 w B x0 x1 x2 x3) h.ki (by rw [size4]; exact Nat.le_refl _) (fun b' off e2 => out4 (show b' ≠ B by have := (h.kf b' off e2).1; omega) x0 x1 x2 x3)
  generalize set4 w B x0 x1 x2 x3 = W at *
  cases e
  cases e'
  exact ⟨hL, hL', hK⟩
set_option maxHeartbeats 4000000 in
/-- ladingref06.Decode -/
theorem rdecode16 (a : Option Addr) (n c : Nat) (l : List Nat) (w : World) (h : IsB w a n c l) :
    Calls Try.prog 16 #[.slice a n c] w fun e w' => Dec15 l w e w' := by
  have HTB := hide h
  have hc1 : n ≤ c := h.2.1
  have hc2 : c ≤ 9223372036854775807 := h.2.2.1
  obtain ⟨Wz, hWz⟩ : ∃ W, W = w.alloc (.cells #[.bool false, .slice none 0 0, .slice none 0 0, .slice none 0 0] 25) := ⟨_, rfl⟩
  have HSZ : Hid (Wz.heap.size = w.heap.size + 1) := hide (by rw [hWz]; simp)
  have HB : Hid (Wz.heap[w.heap.size]? = some (.cells #[.bool false, .slice none 0 0, .slice none 0 0, .slice none 0 0] 25 (0, 0))) := hide (by rw [hWz, heap_alloc_new])
  have HBz : Hid (Below w.heap.size w Wz) := hide (by rw [hWz]; exact belowN _ _)
  by_cases hn : n = 4096
  case neg =>
    have hn1 : ((n : Int) == 4096) = false := by simpa using (show ¬ (n : Int) = 4096 by omega)
    have hn2 : ((n : Int) != 4096) = true := by simpa using (show ¬ (n : Int) = 4096 by omega)
    have HD : Hid (DecR l Pg0 6) := hide (dec_no (by rw [h.1]; exact hn))
    have y0 : Wz.cell? ⟨w.heap.size, 0, none⟩ = some (.bool false) := cell_blkN HB.out rfl
    have y1 : Wz.cell? ⟨w.heap.size, 1, none⟩ = some (.slice none 0 0) := cell_blkN HB.out rfl
    have y2 : Wz.cell? ⟨w.heap.size, 2, none⟩ = some (.slice none 0 0) := cell_blkN HB.out rfl
    have y3 : Wz.cell? ⟨w.heap.size, 3, none⟩ = some (.slice none 0 0) := cell_blkN HB.out rfl
    have f0 := frzN HB.out 0
    have f1 := frzN HB.out 1
    have f2 := frzN HB.out 2
    have f3 := frzN HB.out 3
    rw [hWz] at y0 y1 y2 y3 f0 f1 f2 f3
    clear h
    go_enter Try.func16, Try.ntmps16
    go_wp2_with fail
    try rw [← hWz]
    (try simp only [Exit.inBlock, Exit.then])
    refine bodyPost_ret (resP2 rfl _ _ w.heap.size #[.bool false, .slice none 0 0, .slice none 0 0, .slice none 0 0] HB.out rfl rfl) rfl ?_
    exact ⟨Pv0, Pg0, 6, rfl, isG_0 _, by unfold FewP Pv0; decide, HD.out, HBz.out⟩
  case pos =>
  subst hn
  obtain ⟨b, off, rfl⟩ : ∃ b off, a = some ⟨b, off, none⟩ := by
    rcases h.2.2.2.2 with ⟨h0, _⟩ | ⟨b, off, e, _⟩
    · cases h0
    · exact ⟨b, off, e⟩
  have HRP := hide (read40 b off c 4092 (l.take 4092) Wz (IsB.front (h.below HBz.out) 4092 (by omega)) (by omega) (by omega))
  have hi4 : (4092 : Int) ≤ (c : Int) := by omega
  have hi5 : 4092 ≤ c := by omega
  clear h
  go_enter Try.func16, Try.ntmps16
  go_wp2_with fail
  try rw [← hWz]
  clear hWz
  refine HRP.out.mono ?_
  rintro e w1 ⟨v, p, ok, rfl, hN, hfw, hsh, hq, hb1⟩
  have HQ : Hid (∀ q, checkE q = 0 → encP q = l → ok = true ∧ p = q) := hide (fun q h1 h2 => hq q _ h1 (by rw [← h2]; exact encP_take h1))
  have HN1 := hide (hN.below (belowN w1 (.cells (pgc p.leaf v) 25)))
  have HFW := hide hfw
  obtain ⟨P, hP⟩ : ∃ P, P = w1.heap.size := ⟨_, rfl⟩
  obtain ⟨V1, hV1⟩ : ∃ V, V = w1.alloc (.cells (pgc p.leaf v) 25) := ⟨_, rfl⟩
  have hbv : Below w1.heap.size w1 V1 := by rw [hV1]; exact belowN _ _
  have hbz1 : Below Wz.heap.size Wz V1 := hb1.trans (hbv.mono hb1.size)
  have HB1 : Hid (Below w.heap.size w V1) := hide (HBz.out.trans (hbz1.mono HBz.out.size))
  have HX1 : Hid (V1.heap[w.heap.size]? = some (.cells #[.bool false, .slice none 0 0, .slice none 0 0, .slice none 0 0] 25 (0, 0))) := hide ((hbz1.block _ (heap_ltN HB.out)).trans HB.out)
  have HP1 : Hid (BlkG V1 P p.leaf v) := hide (by show V1.heap[P]? = _; rw [hV1, hP, heap_alloc_new])
  have HPG : Hid (w.heap.size + 1 ≤ P) := hide (by rw [hP]; have := hb1.size; have := HSZ.out; omega)
  rw [← hV1] at HN1
  clear hbv hbz1 hb1 hN hfw hsh hq HRP
  obtain ⟨lf, hlf⟩ : ∃ lf, lf = p.leaf := ⟨_, rfl⟩
  rw [← hlf] at hV1 HP1 ⊢
  have HLF := hide hlf
  clear hlf
  cases ok with
  | false =>
    have HD : Hid (DecR l Pg0 6) := hide (.inr ⟨rfl, rfl, fun q h1 h2 => by have := (HQ.out q h1 h2).1; cases this⟩)
    have y0 : V1.cell? ⟨w.heap.size, 0, none⟩ = some (.bool false) := cell_blkN HX1.out rfl
    have y1 : V1.cell? ⟨w.heap.size, 1, none⟩ = some (.slice none 0 0) := cell_blkN HX1.out rfl
    have y2 : V1.cell? ⟨w.heap.size, 2, none⟩ = some (.slice none 0 0) := cell_blkN HX1.out rfl
    have y3 : V1.cell? ⟨w.heap.size, 3, none⟩ = some (.slice none 0 0) := cell_blkN HX1.out rfl
    have f0 := frzN HX1.out 0
    have f1 := frzN HX1.out 1
    have f2 := frzN HX1.out 2
    have f3 := frzN HX1.out 3
    rw [hV1] at y0 y1 y2 y3 f0 f1 f2 f3
    go_wp2_with fail
    try rw [← hV1]
    (try simp only [Exit.inBlock, Exit.then])
    refine bodyPost_ret (resP2 rfl _ _ w.heap.size #[.bool false, .slice none 0 0, .slice none 0 0, .slice none 0 0] (blk4 HX1.out _ _ _ _) rfl rfl) rfl ?_
    exact ⟨Pv0, Pg0, 6, rfl, isG_0 _, by unfold FewP Pv0; decide, HD.out, below4 HB1.out (Nat.le_refl _) _ _ _ _⟩
  | true =>
    by_cases hE : checkE p = 0
    case neg =>
      have HEN := hide (renc_no v p V1 HN1.out.is hE HFW.out)
      have HD : Hid (DecR l Pg0 6) := hide (.inr ⟨rfl, rfl, fun q h1 h2 => hE (by rw [(HQ.out q h1 h2).2]; exact h1)⟩)
      rw [← HLF.out] at HEN
      obtain ⟨p0, p1, p2, p3⟩ := BlkG.cells HP1.out
      rw [hV1, hP] at p0 p1 p2 p3
      generalize checkE p = E at *
      have hc3 : (E == (0 : Int)) = false := by simpa using hE
      have hc4 : (E != (0 : Int)) = true := by simpa using hE
      go_wp2_with fail
      try rw [← hV1]
      clear hV1 p0 p1 p2 p3
      refine HEN.out.mono ?_
      rintro e w2 ⟨rfl, hb2⟩
      have HX2 : Hid (w2.heap[w.heap.size]? = some (.cells #[.bool false, .slice none 0 0, .slice none 0 0, .slice none 0 0] 25 (0, 0))) := hide ((hb2.block _ (heap_ltN HX1.out)).trans HX1.out)
      have HB2 : Hid (Below w.heap.size w w2) := hide (HB1.out.trans (hb2.mono HB1.out.size))
      have y0 : w2.cell? ⟨w.heap.size, 0, none⟩ = some (.bool false) := cell_blkN HX2.out rfl
      have y1 : w2.cell? ⟨w.heap.size, 1, none⟩ = some (.slice none 0 0) := cell_blkN HX2.out rfl
      have y2 : w2.cell? ⟨w.heap.size, 2, none⟩ = some (.slice none 0 0) := cell_blkN HX2.out rfl
      have y3 : w2.cell? ⟨w.heap.size, 3, none⟩ = some (.slice none 0 0) := cell_blkN HX2.out rfl
      have f0 := frzN HX2.out 0
      have f1 := frzN HX2.out 1
      have f2 := frzN HX2.out 2
      have f3 := frzN HX2.out 3
      clear hb2 HEN
      go_wp2_with fail
      (try simp only [Exit.inBlock, Exit.then])
      refine bodyPost_ret (resP2 rfl _ _ w.heap.size #[.bool false, .slice none 0 0, .slice none 0 0, .slice none 0 0] (blk4 HX2.out _ _ _ _) rfl rfl) rfl ?_
      exact ⟨Pv0, Pg0, 6, rfl, isG_0 _, by unfold FewP Pv0; decide, HD.out, below4 HB2.out (Nat.le_refl _) _ _ _ _⟩
    case pos =>
      have HEN := hide (renc_yes v p V1 HN1.out.is hE HFW.out)
      have HEL := hide (encP_lt HN1.out.is)
      have HE := hide hE
      rw [← HLF.out] at HEN
      obtain ⟨p0, p1, p2, p3⟩ := BlkG.cells HP1.out
      rw [hV1, hP] at p0 p1 p2 p3
      clear hE
      go_wp2_with fail
      try rw [← hV1]
      clear p0 p1 p2 p3
      refine HEN.out.mono ?_
      rintro e w2 ⟨a2, c2, rfl, hI2, hb2⟩
      have HI2 := hide hI2
      have HX2 : Hid (w2.heap[w.heap.size]? = some (.cells #[.bool false, .slice none 0 0, .slice none 0 0, .slice none 0 0] 25 (0, 0))) := hide ((hb2.block _ (heap_ltN HX1.out)).trans HX1.out)
      have HP2 : Hid (BlkG w2 P lf v) := hide ((hb2.block _ (heap_ltN HP1.out)).trans HP1.out)
      have HB2 : Hid (Below w.heap.size w w2) := hide (HB1.out.trans (hb2.mono HB1.out.size))
      have HN2 := hide (HN1.out.below hb2)
      have hcv1 : (convert 26 9 (.slice a2 4096 c2)).run Try.prog w2 = .ok (.string (str (encP p))) w2 := conv_str hI2
      have hcv2 : (convert 26 9 (.slice (some ⟨b, off, none⟩) 4096 c)).run Try.prog w2 = .ok (.string (str l)) w2 := conv_str (HTB.out.below HB2.out)
      have hst := str_eq hI2.2.2.2.1 HTB.out.2.2.2.1
      clear hb2 HEN hI2 hV1
      by_cases heq : encP p = l
      case neg =>
        have HD : Hid (DecR l Pg0 6) := hide (.inr ⟨rfl, rfl, fun q h1 h2 => heq (by rw [(HQ.out q h1 h2).2]; exact h2)⟩)
        rw [decide_eq_false heq] at hst
        have y0 : w2.cell? ⟨w.heap.size, 0, none⟩ = some (.bool false) := cell_blkN HX2.out rfl
        have y1 : w2.cell? ⟨w.heap.size, 1, none⟩ = some (.slice none 0 0) := cell_blkN HX2.out rfl
        have y2 : w2.cell? ⟨w.heap.size, 2, none⟩ = some (.slice none 0 0) := cell_blkN HX2.out rfl
        have y3 : w2.cell? ⟨w.heap.size, 3, none⟩ = some (.slice none 0 0) := cell_blkN HX2.out rfl
        have f0 := frzN HX2.out 0
        have f1 := frzN HX2.out 1
        have f2 := frzN HX2.out 2
        have f3 := frzN HX2.out 3
        go_wp2_with fail
        (try simp only [Exit.inBlock, Exit.then])
        refine bodyPost_ret (resP2 rfl _ _ w.heap.size #[.bool false, .slice none 0 0, .slice none 0 0, .slice none 0 0] (blk4 HX2.out _ _ _ _) rfl rfl) rfl ?_
        exact ⟨Pv0, Pg0, 6, rfl, isG_0 _, by unfold FewP Pv0; decide, HD.out, below4 HB2.out (Nat.le_refl _) _ _ _ _⟩
      case pos =>
        have HD : Hid (DecR l p 0) := hide (.inl ⟨rfl, HE.out, heq, fun q h1 h2 => (HQ.out q h1 h2).2⟩)
        rw [decide_eq_true heq] at hst
        have HCP := hide (rcopy_any v p w2 HN2.out.is HFW.out ⟨fun b hb => Nat.le_trans ((kind_short (check_kind HE.out)).1 b hb) (by decide), fun b hb => Nat.le_trans ((kind_short (check_kind HE.out)).2.1 b hb) (by decide)⟩ lf)
        obtain ⟨p0, p1, p2, p3⟩ := BlkG.cells HP2.out
        rw [hP] at p0 p1 p2 p3
        go_wp2_with fail
        clear p0 p1 p2 p3 hcv1 hcv2 hst
        refine HCP.out.mono ?_
        rintro e w4 ⟨v4, xs, ys, M, rfl, hcp, e1, e2, e3, hb4⟩
        have HX4 : Hid (w4.heap[w.heap.size]? = some (.cells #[.bool false, .slice none 0 0, .slice none 0 0, .slice none 0 0] 25 (0, 0))) := hide ((hb4.block _ (heap_ltN HX2.out)).trans HX2.out)
        have HB4 : Hid (Below w.heap.size w w4) := hide (HB2.out.trans (hb4.mono HB2.out.size))
        have HC4 := hide hcp
        have HF4 : Hid (FewP v4) := hide (by unfold FewP; rw [e1, e2, e3]; exact HFW.out)
        have HG4 : Hid (w.heap.size < w2.heap.size + 2) := hide (by have := HB2.out.size; omega)
        clear hcp e1 e2 e3 hb4 HCP
        have y0 : w4.cell? ⟨w.heap.size, 0, none⟩ = some (.bool false) := cell_blkN HX4.out rfl
        have y1 : w4.cell? ⟨w.heap.size, 1, none⟩ = some (.slice none 0 0) := cell_blkN HX4.out rfl
        have y2 : w4.cell? ⟨w.heap.size, 2, none⟩ = some (.slice none 0 0) := cell_blkN HX4.out rfl
        have y3 : w4.cell? ⟨w.heap.size, 3, none⟩ = some (.slice none 0 0) := cell_blkN HX4.out rfl
        have f0 := frzN HX4.out 0
        have f1 := frzN HX4.out 1
        have f2 := frzN HX4.out 2
        have f3 := frzN HX4.out 3
        go_wp2_with fail
        (try simp only [Exit.inBlock, Exit.then])
        refine bodyPost_ret (resP2 rfl _ _ w.heap.size #[.bool lf, .slice v4.ka v4.kn v4.kc, .slice v4.va v4.vn v4.vc, .slice v4.ia v4.inn v4.ic] (blk4 HX4.out _ _ _ _) rfl rfl) rfl ?_
        exact ⟨v4, p, 0, by rw [HLF.out]; rfl, HC4.out.isG4 HG4.out _ _ _ _, HF4.out, HD.out, below4 HB4.out (Nat.le_refl _) _ _ _ _⟩
end Go.Proofs.Ytebikoekpbnpbaa

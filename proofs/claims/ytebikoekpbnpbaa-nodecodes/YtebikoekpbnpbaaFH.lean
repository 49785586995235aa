/- Decode -/
import Derived.Test.YtebikoekpbnpbaaFG
namespace Go.Proofs.Ytebikoekpbnpbaa
open Go.RowKit Cod
set_option maxRecDepth 100000
set_option linter.unusedVariables false
set_option linter.unusedSimpArgs false
/-- what Decode finds -/
def DecR (l : List Nat) (p : Pg) (er : Int) : Prop := (er = 0 ∧ checkE p = 0 ∧ encP p = l ∧ ∀ q, checkE q = 0 → encP q = l → p = q) ∨ (er = 6 ∧ p = Pg0 ∧ ∀ q, checkE q = 0 → ¬ encP q = l)
/-- what Decode answers -/
def Dec15 (l : List Nat) (w : World) (e : Ending) (w' : World) : Prop := ∃ (v : Pv) (p : Pg) (er : Int), e = .returned (.tuple #[.agg (pgc p.leaf v), .int .i64 er]) ∧ IsG w' v p ∧ FewP v ∧ DecR l p er ∧ Below w.heap.size w w'
theorem encP_len {q : Pg} (h : checkE q = 0) : (encP q).length = 4096 := by
  unfold encP
  rw [List.length_append, padN_len (text_fits h).1]
  rfl
theorem encP_take {q : Pg} (h : checkE q = 0) : (encP q).take 4092 = textP q ++ List.replicate (4092 - (textP q).length) 0 := by
  unfold encP
  have h1 := padN_len (text_fits h).1
  rw [List.take_left' h1]
  rfl
theorem dec_no {l : List Nat} (h : ¬ l.length = 4096) : DecR l Pg0 6 := .inr ⟨rfl, rfl, fun q hq e => h (by rw [← e]; exact encP_len hq)⟩
theorem encP_lt {w : World} {v : Pv} {p : Pg} (h : IsG w v p) : ∀ x ∈ encP p, x < 256 := fun x hx => by
  unfold encP at hx
  rcases List.mem_append.1 hx with h1 | h1
  · exact padN_lt (text_lt h) x h1
  · exact le_lt _ x h1
set_option maxHeartbeats 4000000 in
/-- node.Decode -/
theorem decode15 (a : Option Addr) (n c : Nat) (l : List Nat) (w : World) (h : IsB w a n c l) :
    Calls Try.prog 15 #[.slice a n c] w fun e w' => Dec15 l w e w' := by
  have HTB := hide h
  have hc1 : n ≤ c := h.2.1
  have hc2 : c ≤ 9223372036854775807 := h.2.2.1
  obtain ⟨Wz, hWz⟩ : ∃ W, W = w.alloc (.cells #[.bool false, .slice none 0 0, .slice none 0 0, .slice none 0 0] 25) := ⟨_, rfl⟩
  have HSZ : Hid (Wz.heap.size = w.heap.size + 1) := hide (by rw [hWz]; simp)
  have HB : Hid (Wz.heap[w.heap.size]? = some (.cells #[.bool false, .slice none 0 0, .slice none 0 0, .slice none 0 0] 25 (0, 0))) := hide (by rw [hWz, heap_alloc_new])
  have HBz : Hid (Below w.heap.size w Wz) := hide (by rw [hWz]; exact belowN _ _)
  by_cases hn : n = 4096
  case neg =>
    have hn1 : ((n : Int) == 4096) = false := by simpa using (show ¬ (n : Int) = 4096 by omega)
    have hn2 : ((n : Int) != 4096) = true := by simpa using (show ¬ (n : Int) = 4096 by omega)
    have HD : Hid (DecR l Pg0 6) := hide (dec_no (by rw [h.1]; exact hn))
    have y0 : Wz.cell? ⟨w.heap.size, 0, none⟩ = some (.bool false) := cell_blkN HB.out rfl
    have y1 : Wz.cell? ⟨w.heap.size, 1, none⟩ = some (.slice none 0 0) := cell_blkN HB.out rfl
    have y2 : Wz.cell? ⟨w.heap.size, 2, none⟩ = some (.slice none 0 0) := cell_blkN HB.out rfl
    have y3 : Wz.cell? ⟨w.heap.size, 3, none⟩ = some (.slice none 0 0) := cell_blkN HB.out rfl
    have f0 := frzN HB.out 0
    have f1 := frzN HB.out 1
    have f2 := frzN HB.out 2
    have f3 := frzN HB.out 3
    rw [hWz] at y0 y1 y2 y3 f0 f1 f2 f3
    clear h
    go_enter Try.func15, Try.ntmps15
    go_wp2_with fail
    try rw [← hWz]
    (try simp only [Exit.inBlock, Exit.then])
    refine bodyPost_ret (resP2 rfl _ _ w.heap.size #[.bool false, .slice none 0 0, .slice none 0 0, .slice none 0 0] HB.out rfl rfl) rfl ?_
    exact ⟨Pv0, Pg0, 6, rfl, isG_0 _, by unfold FewP Pv0; decide, HD.out, HBz.out⟩
  case pos =>
  subst hn
  obtain ⟨b, off, rfl⟩ : ∃ b off, a = some ⟨b, off, none⟩ := by
    rcases h.2.2.2.2 with ⟨h0, _⟩ | ⟨b, off, e, _⟩
    · cases h0
    · exact ⟨b, off, e⟩
  have HRP := hide (readPage38 b off c 4092 (l.take 4092) Wz (IsB.front (h.below HBz.out) 4092 (by omega)) (by omega) (by omega))
  have hi4 : (4092 : Int) ≤ (c : Int) := by omega
  have hi5 : 4092 ≤ c := by omega
  clear h
  go_enter Try.func15, Try.ntmps15
  go_wp2_with fail
  try rw [← hWz]
  clear hWz
  refine HRP.out.mono ?_
  rintro e w1 ⟨v, p, ok, rfl, hN, hfw, hsh, hq, hb1⟩
  have HQ : Hid (∀ q, checkE q = 0 → encP q = l → ok = true ∧ p = q) := hide (fun q h1 h2 => hq q _ h1 (by rw [← h2]; exact encP_take h1))
  have HN1 := hide (hN.below (belowN w1 (.cells (pgc p.leaf v) 25)))
  have HFW := hide hfw
  obtain ⟨P, hP⟩ : ∃ P, P = w1.heap.size := ⟨_, rfl⟩
  obtain ⟨V1, hV1⟩ : ∃ V, V = w1.alloc (.cells (pgc p.leaf v) 25) := ⟨_, rfl⟩
  have hbv : Below w1.heap.size w1 V1 := by rw [hV1]; exact belowN _ _
  have hbz1 : Below Wz.heap.size Wz V1 := hb1.trans (hbv.mono hb1.size)
  have HB1 : Hid (Below w.heap.size w V1) := hide (HBz.out.trans (hbz1.mono HBz.out.size))
  have HX1 : Hid (V1.heap[w.heap.size]? = some (.cells #[.bool false, .slice none 0 0, .slice none 0 0, .slice none 0 0] 25 (0, 0))) := hide ((hbz1.block _ (heap_ltN HB.out)).trans HB.out)
  have HP1 : Hid (BlkG V1 P p.leaf v) := hide (by show V1.heap[P]? = _; rw [hV1, hP, heap_alloc_new])
  have HPG : Hid (w.heap.size + 1 ≤ P) := hide (by rw [hP]; have := hb1.size; have := HSZ.out; omega)
  rw [← hV1] at HN1
  clear hbv hbz1 hb1 hN hfw hsh hq HRP
  obtain ⟨lf, hlf⟩ : ∃ lf, lf = p.leaf := ⟨_, rfl⟩
  rw [← hlf] at hV1 HP1 ⊢
  have HLF := hide hlf
  clear hlf
  cases ok with
  | false =>
    have HD : Hid (DecR l Pg0 6) := hide (.inr ⟨rfl, rfl, fun q h1 h2 => by have := (HQ.out q h1 h2).1; cases this⟩)
    have y0 : V1.cell? ⟨w.heap.size, 0, none⟩ = some (.bool false) := cell_blkN HX1.out rfl
    have y1 : V1.cell? ⟨w.heap.size, 1, none⟩ = some (.slice none 0 0) := cell_blkN HX1.out rfl
    have y2 : V1.cell? ⟨w.heap.size, 2, none⟩ = some (.slice none 0 0) := cell_blkN HX1.out rfl
    have y3 : V1.cell? ⟨w.heap.size, 3, none⟩ = some (.slice none 0 0) := cell_blkN HX1.out rfl
    have f0 := frzN HX1.out 0
    have f1 := frzN HX1.out 1
    have f2 := frzN HX1.out 2
    have f3 := frzN HX1.out 3
    rw [hV1] at y0 y1 y2 y3 f0 f1 f2 f3
    go_wp2_with fail
    try rw [← hV1]
    (try simp only [Exit.inBlock, Exit.then])
    refine bodyPost_ret (resP2 rfl _ _ w.heap.size #[.bool false, .slice none 0 0, .slice none 0 0, .slice none 0 0] (blk4 HX1.out _ _ _ _) rfl rfl) rfl ?_
    exact ⟨Pv0, Pg0, 6, rfl, isG_0 _, by unfold FewP Pv0; decide, HD.out, below4 HB1.out (Nat.le_refl _) _ _ _ _⟩
  | true =>
    by_cases hE : checkE p = 0
    case neg =>
      have HEN := hide (enc_no v p V1 HN1.out.is hE HFW.out)
      have HD : Hid (DecR l Pg0 6) := hide (.inr ⟨rfl, rfl, fun q h1 h2 => hE (by rw [(HQ.out q h1 h2).2]; exact h1)⟩)
      rw [← HLF.out] at HEN
      obtain ⟨p0, p1, p2, p3⟩ := BlkG.cells HP1.out
      rw [hV1, hP] at p0 p1 p2 p3
      generalize checkE p = E at *
      have hc3 : (E == (0 : Int)) = false := by simpa using hE
      have hc4 : (E != (0 : Int)) = true := by simpa using hE
      go_wp2_with fail
      try rw [← hV1]
      clear hV1 p0 p1 p2 p3
      refine HEN.out.mono ?_
      rintro e w2 ⟨rfl, hb2⟩
      have HX2 : Hid (w2.heap[w.heap.size]? = some (.cells #[.bool false, .slice none 0 0, .slice none 0 0, .slice none 0 0] 25 (0, 0))) := hide ((hb2.block _ (heap_ltN HX1.out)).trans HX1.out)
      have HB2 : Hid (Below w.heap.size w w2) := hide (HB1.out.trans (hb2.mono HB1.out.size))
      have y0 : w2.cell? ⟨w.heap.size, 0, none⟩ = some (.bool false) := cell_blkN HX2.out rfl
      have y1 : w2.cell? ⟨w.heap.size, 1, none⟩ = some (.slice none 0 0) := cell_blkN HX2.out rfl
      have y2 : w2.cell? ⟨w.heap.size, 2, none⟩ = some (.slice none 0 0) := cell_blkN HX2.out rfl
      have y3 : w2.cell? ⟨w.heap.size, 3, none⟩ = some (.slice none 0 0) := cell_blkN HX2.out rfl
      have f0 := frzN HX2.out 0
      have f1 := frzN HX2.out 1
      have f2 := frzN HX2.out 2
      have f3 := frzN HX2.out 3
      clear hb2 HEN
      go_wp2_with fail
      (try simp only [Exit.inBlock, Exit.then])
      refine bodyPost_ret (resP2 rfl _ _ w.heap.size #[.bool false, .slice none 0 0, .slice none 0 0, .slice none 0 0] (blk4 HX2.out _ _ _ _) rfl rfl) rfl ?_
      exact ⟨Pv0, Pg0, 6, rfl, isG_0 _, by unfold FewP Pv0; decide, HD.out, below4 HB2.out (Nat.le_refl _) _ _ _ _⟩
    case pos =>
      have HEN := hide (enc_yes v p V1 HN1.out.is hE HFW.out)
      have HEL := hide (encP_lt HN1.out.is)
      have HE := hide hE
      rw [← HLF.out] at HEN
      obtain ⟨p0, p1, p2, p3⟩ := BlkG.cells HP1.out
      rw [hV1, hP] at p0 p1 p2 p3
      clear hE
      go_wp2_with fail
      try rw [← hV1]
      clear p0 p1 p2 p3
      refine HEN.out.mono ?_
      rintro e w2 ⟨g, rfl, ho2, hb2⟩
      obtain ⟨a2, c2, e2, hI2⟩ := owns_isB ho2 HEL.out
      cases e2
      have HI2 := hide hI2
      have HX2 : Hid (w2.heap[w.heap.size]? = some (.cells #[.bool false, .slice none 0 0, .slice none 0 0, .slice none 0 0] 25 (0, 0))) := hide ((hb2.block _ (heap_ltN HX1.out)).trans HX1.out)
      have HP2 : Hid (BlkG w2 P lf v) := hide ((hb2.block _ (heap_ltN HP1.out)).trans HP1.out)
      have HB2 : Hid (Below w.heap.size w w2) := hide (HB1.out.trans (hb2.mono HB1.out.size))
      have HN2 := hide (HN1.out.below hb2)
      have HEQ := hide (equal_any _ _ _ _ _ _ _ _ w2 HI2.out (HTB.out.below HB2.out))
      clear hb2 HEN ho2 hI2 hV1
      go_wp2_with fail
      refine HEQ.out.mono ?_
      rintro e w3 ⟨rfl, rfl⟩
      have y0 : w3.cell? ⟨w.heap.size, 0, none⟩ = some (.bool false) := cell_blkN HX2.out rfl
      have y1 : w3.cell? ⟨w.heap.size, 1, none⟩ = some (.slice none 0 0) := cell_blkN HX2.out rfl
      have y2 : w3.cell? ⟨w.heap.size, 2, none⟩ = some (.slice none 0 0) := cell_blkN HX2.out rfl
      have y3 : w3.cell? ⟨w.heap.size, 3, none⟩ = some (.slice none 0 0) := cell_blkN HX2.out rfl
      have f0 := frzN HX2.out 0
      have f1 := frzN HX2.out 1
      have f2 := frzN HX2.out 2
      have f3 := frzN HX2.out 3
      clear HEQ
      by_cases heq : encP p = l
      case neg =>
        have HD : Hid (DecR l Pg0 6) := hide (.inr ⟨rfl, rfl, fun q h1 h2 => heq (by rw [(HQ.out q h1 h2).2]; exact h2)⟩)
        rw [decide_eq_false heq]
        go_wp2_with fail
        (try simp only [Exit.inBlock, Exit.then])
        refine bodyPost_ret (resP2 rfl _ _ w.heap.size #[.bool false, .slice none 0 0, .slice none 0 0, .slice none 0 0] (blk4 HX2.out _ _ _ _) rfl rfl) rfl ?_
        exact ⟨Pv0, Pg0, 6, rfl, isG_0 _, by unfold FewP Pv0; decide, HD.out, below4 HB2.out (Nat.le_refl _) _ _ _ _⟩
      case pos =>
        have HD : Hid (DecR l p 0) := hide (.inl ⟨rfl, HE.out, heq, fun q h1 h2 => (HQ.out q h1 h2).2⟩)
        rw [decide_eq_true heq]
        obtain ⟨p0, p1, p2, p3⟩ := BlkG.cells HP2.out
        rw [hP] at p0 p1 p2 p3
        go_wp2_with fail
        (try simp only [Exit.inBlock, Exit.then])
        refine bodyPost_ret (resP2 rfl _ _ w.heap.size #[.bool lf, .slice v.ka v.kn v.kc, .slice v.va v.vn v.vc, .slice v.ia v.inn v.ic] (blk4 HX2.out _ _ _ _) rfl rfl) rfl ?_
        exact ⟨v, p, 0, by rw [HLF.out]; rfl, (HN2.out.set4 (B := w.heap.size) (by have := HSZ.out; omega) _ _ _ _).is, HFW.out, HD.out, below4 HB2.out (Nat.le_refl _) _ _ _ _⟩
end Go.Proofs.Ytebikoekpbnpbaa

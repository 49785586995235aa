/- Alloc, Free, Page, Write -/
import Derived.Test.YtecmfpgccmmlpaaPg
import Derived.Test.YtecmfpgccmmlpaaPd
namespace Go.Proofs.Ytecmfpgccmmlpaa
open Go.RowKit
set_option maxRecDepth 100000
set_option linter.unusedVariables false
set_option linter.unusedSimpArgs false
theorem isB_lit83 (W : World) (l : List Nat) (h : ∀ x ∈ l, x < 256) (hm : l.length ≤ maxLen) : IsB (W.alloc (.cells (bv l).toArray 83)) (some ⟨W.heap.size, 0, none⟩) l.length l.length l := by
  refine ⟨rfl, Nat.le_refl _, hm, h, .inr ⟨_, 0, rfl, by simp, fun i hi => ?_⟩⟩
  rw [Nat.zero_add]
  exact cell_bk (heap_alloc_new W _) (by simpa using bv_get l i hi)
theorem IsP.frmD {w w' : World} {gp gq g gs b n m : Nat} {p : Pg} {st : St} {X : Nat → Prop} (h : IsP w gp gq g n p) (hd : IsD X w g gs b m st) (hf : Frm (SD g gs b) w w') : IsP w' gp gq g n p :=
  ⟨(hf.block gp (heap_lt h.blk) (fun e => hd.noT (by decide) (by decide) e h.blk)).trans h.blk, by
    obtain ⟨cur, hh, hc⟩ := h.row
    exact ⟨cur, (hf.block gq (heap_lt hh) (fun e => hd.noT (by decide) (by decide) e hh)).trans hh, hc⟩, h.may, h.tot, h.n1, h.sm, h.n0⟩
theorem IsD.frmP {w w' : World} {gp gq g gs b n m : Nat} {p : Pg} {st : St} {X : Nat → Prop} (hd : IsD X w g gs b m st) (h : IsP w gp gq g n p) (hf : Frm (SP gp gq) w w') : IsD X w' g gs b m st := by
  refine hd.kept (S := SP gp gq) hf ?_ (K5.of_frm hf ?_)
  · rintro i (rfl | rfl) e
    · exact hd.noT (by decide) (by decide) e h.blk
    · obtain ⟨cur, hh, hc⟩ := h.row
      exact hd.noT (by decide) (by decide) e hh
  · rintro i cur m (rfl | rfl) e
    · rw [h.blk] at e; simp at e
    · obtain ⟨cur, hh, hc⟩ := h.row
      rw [hh] at e; simp at e
theorem alloc_nil (w : World) : Calls Try.prog 23 #[.pointer none] w fun e w' => e = .returned (.tuple #[.int .i64 0, .int .i64 1]) ∧ w' = w := by
  go_enter Try.func23, Try.ntmps23
  go_wp2_with fail
  refine (pready_nil _).mono ?_
  rintro e w1 ⟨rfl, rfl⟩
  go_wp2
  go_ret2
  exact ⟨rfl, rfl⟩
theorem alloc_any {w : World} {gp gq g n : Nat} {p : Pg} (h : IsP w gp gq g n p) : Calls Try.prog 23 #[.pointer (some ⟨gp, 0, none⟩)] w fun e w' => e = .returned (.tuple #[.int .i64 p.alloc.2.1, .int .i64 p.alloc.2.2]) ∧ IsP w' gp gq g n p.alloc.1 ∧ Frm (SP gp gq) w w' := by
  have HD := hide (pready_any h)
  have HH := hide h
  have HX := hide (index_any w _ _ _ _ (h.row.isB h.sm h.pc.l1) h.pc.l1 0)
  have c6 := h.pc.c6
  have HT : Hid (p.alloc = if p.bad then (p, 0, 9) else if p.ps.idxOf 0 < p.ps.length then ({ p with ps := p.ps.set (p.ps.idxOf 0) 1 }, 2 + p.sup.jn + p.ps.idxOf 0, 0) else (p, 0, 7)) := hide rfl
  unfold Pg.rdy at HD
  cases hb : p.bad
  · rw [hb] at HD HT
    by_cases hi : p.ps.idxOf 0 < p.ps.length
    · have HR : Hid (p.alloc = ({ p with ps := p.ps.set (p.ps.idxOf 0) 1 }, 2 + p.sup.jn + p.ps.idxOf 0, 0)) := hide (by rw [Pg.alloc, if_neg (by rw [hb]; decide), if_pos hi])
      have HIX : Hid (idxI p.ps 0 = (p.ps.idxOf 0 : Nat)) := hide (by rw [idxI, if_pos hi])
      rw [HIX.out] at HX
      have HN := hide (h.setCell (p.ps.idxOf 0) 1 (by decide))
      have HF : Hid (Frm (SP gp gq) w (w.setCell ⟨gq, p.ps.idxOf 0, none⟩ (.int .u8 ((1 : Nat) : Int)))) := hide (Frm.set (S := SP gp gq) (Frm.refl _ _) (.inr rfl) _)
      have HP := hide (pfirst_any HN.out.pc)
      have hce := h.row.cell hi
      have hfz := h.row.frozen (p.ps.idxOf 0)
      have l1 := h.pc.l1
      have j0 := h.pc.j0
      have j1 := h.pc.j1
      have hw : IntKind.i64.wrap (2 + p.sup.jn + ((p.ps.idxOf 0 : Nat) : Int)) = 2 + p.sup.jn + ((p.ps.idxOf 0 : Nat) : Int) := by rw [IntKind.wrap_i64]; omega
      dsimp only at HP
      clear HT HIX HH h hb
      generalize p.alloc = R at *
      generalize p.ps.idxOf 0 = j at *
      generalize p.ps.getD j 0 = x at *
      generalize p.ps.length = L at *
      go_enter Try.func23, Try.ntmps23
      go_wp2_with fail
      refine HD.out.mono ?_
      rintro e w1 ⟨rfl, rfl⟩
      go_wp2_with fail
      refine HX.out.mono ?_
      rintro e w1 ⟨rfl, rfl⟩
      go_wp2_with fail
      refine HP.out.mono ?_
      rintro e w1 ⟨rfl, rfl⟩
      go_wp2
      go_ret2
      exact ⟨by rw [HR.out]; rfl, by rw [HR.out]; exact HN.out, HF.out⟩
    · have HR : Hid (p.alloc = (p, 0, 7)) := hide (by rw [HT.out, if_neg (by decide), if_neg hi])
      have HIX : Hid (idxI p.ps 0 = -1) := hide (by rw [idxI, if_neg hi])
      rw [HIX.out] at HX
      clear HT HIX h hb hi
      generalize p.alloc = R at *
      go_enter Try.func23, Try.ntmps23
      go_wp2_with fail
      refine HD.out.mono ?_
      rintro e w1 ⟨rfl, rfl⟩
      go_wp2_with fail
      refine HX.out.mono ?_
      rintro e w1 ⟨rfl, rfl⟩
      go_wp2
      go_ret2
      exact ⟨by rw [HR.out]; rfl, by rw [HR.out]; exact HH.out, Frm.refl _ _⟩
  · rw [hb] at HD HT
    have HR : Hid (p.alloc = (p, 0, 9)) := hide (by rw [HT.out, if_pos rfl])
    clear HT HX h hb
    generalize p.alloc = R at *
    go_enter Try.func23, Try.ntmps23
    go_wp2_with fail
    refine HD.out.mono ?_
    rintro e w1 ⟨rfl, rfl⟩
    go_wp2
    go_ret2
    exact ⟨by rw [HR.out]; rfl, by rw [HR.out]; exact HH.out, Frm.refl _ _⟩
theorem free_nil (k : Int) (w : World) : Calls Try.prog 26 #[.pointer none, .int .i64 k] w fun e w' => e = .returned (.int .i64 1) ∧ Below w.heap.size w w' := by
  have HB : Hid (Below w.heap.size w (w.alloc (.cells #[.int .u8 1, .int .u8 2] 83))) := hide ((Below.refl _ w).alloc (Nat.le_refl _) _)
  go_enter Try.func26, Try.ntmps26
  go_wp2_with fail
  refine (check_nil k _ _).mono ?_
  rintro e w1 ⟨rfl, rfl⟩
  go_wp2
  go_ret
  exact ⟨rfl, HB.out⟩
theorem chk_zero {p : Pg} {k : Int} {l : List Nat} (h : p.chk k l = 0) : p.bad = false ∧ p.has k = true ∧ l.contains (p.how k) = true := by
  unfold Pg.chk at h
  cases hb : p.bad <;> cases hk : p.has k <;> cases hc : l.contains (p.how k) <;> rw [hb, hk, hc] at h <;> simp at h ⊢
theorem chk_of {p : Pg} {k : Int} {l : List Nat} (h1 : p.bad = false) (h2 : p.has k = true) (h3 : l.contains (p.how k) = true) : p.chk k l = 0 := by
  unfold Pg.chk
  rw [h1, h2, h3]
  rfl
set_option maxHeartbeats 800000 in
theorem free_any {w : World} {gp gq g n : Nat} {p : Pg} (h : IsP w gp gq g n p) (k : Int) (h0 : -9223372036854775808 ≤ k) (h1 : k ≤ 9223372036854775807) : Calls Try.prog 26 #[.pointer (some ⟨gp, 0, none⟩), .int .i64 k] w fun e w' => e = .returned (.int .i64 (p.free k).2) ∧ IsP w' gp gq g n (p.free k).1 ∧ Frm (SP gp gq) w w' := by
  have HB : Hid (Below w.heap.size w (w.alloc (.cells #[.int .u8 1, .int .u8 2] 83))) := hide ((Below.refl _ w).alloc (Nat.le_refl _) _)
  have HA : Hid (IsP (w.alloc (.cells #[.int .u8 1, .int .u8 2] 83)) gp gq g n p) := hide (h.below HB.out)
  have HI2 : IsB (w.alloc (.cells #[.int .u8 1, .int .u8 2] 83)) (some ⟨w.heap.size, 0, none⟩) 2 2 [1, 2] := isB_lit83 w [1, 2] (by decide) (by decide)
  have HC := hide (check_q HA.out k h0 h1 _ 2 2 [1, 2] HI2 (by omega))
  have HT : Hid (p.free k = if p.chk k [1, 2] = 0 then (if p.how k = 1 then p.put k 0 else p.put k 3, 0) else (p, p.chk k [1, 2])) := hide rfl
  clear HI2
  by_cases hc : p.chk k [1, 2] = 0
  · rw [hc] at HC
    obtain ⟨hb, hk, hcn⟩ := chk_zero hc
    have HI : Hid (∀ m, Calls Try.prog 48 #[.pointer (some ⟨gp, 0, none⟩), .int .i64 k, .slice (some ⟨w.heap.size + 1, 0, none⟩) 1 1] (((w.alloc (.cells #[.int .u8 1, .int .u8 2] 83)).alloc (.cells #[.int .u8 1] 83)).drewN m) fun e w' => e = .returned (.bool (p.how k == 1)) ∧ ∃ m', w' = (((w.alloc (.cells #[.int .u8 1, .int .u8 2] 83)).alloc (.cells #[.int .u8 1] 83)).drewN m).drewN m') := hide (fun m => by
      have hb2 := (((Below.refl _ (w.alloc (.cells #[.int .u8 1, .int .u8 2] 83))).alloc (Nat.le_refl _) (.cells #[.int .u8 1] 83)))
      have e1 := isB_lit83 (w.alloc (.cells #[.int .u8 1, .int .u8 2] 83)) [1] (by decide) (by decide)
      rw [show (w.alloc (.cells #[.int .u8 1, .int .u8 2] 83)).heap.size = w.heap.size + 1 by simp] at e1
      have e2 := is_q ((HA.out.below hb2).below (below_drewN (Below.refl _ _) m)) k h0 h1 _ 1 1 [1] (e1.below (below_drewN (Below.refl _ _) m)) (by omega)
      have e3 : p.is k [1] = (p.how k == 1) := by rw [Pg.is, hk, Bool.true_and]; simp [List.contains, List.elem]; cases (p.how k == 1) <;> rfl
      rw [e3] at e2
      exact e2)
    have HS0 : Hid (∀ (W : World), IsP W gp gq g n p → Calls Try.prog 58 #[.pointer (some ⟨gp, 0, none⟩), .int .i64 k, .int .u8 0] W fun e w' => e = .returned (.tuple #[]) ∧ IsP w' gp gq g n (p.put k 0) ∧ Frm (SP gp gq) W w') := hide (fun W hW => set_any hW k hk 0 (by decide))
    have HS3 : Hid (∀ (W : World), IsP W gp gq g n p → Calls Try.prog 58 #[.pointer (some ⟨gp, 0, none⟩), .int .i64 k, .int .u8 3] W fun e w' => e = .returned (.tuple #[]) ∧ IsP w' gp gq g n (p.put k 3) ∧ Frm (SP gp gq) W w') := hide (fun W hW => set_any hW k hk 3 (by decide))
    have HQ : Hid (∀ m, Below w.heap.size w (((w.alloc (.cells #[.int .u8 1, .int .u8 2] 83)).alloc (.cells #[.int .u8 1] 83)).drewN m) ∧ IsP (((w.alloc (.cells #[.int .u8 1, .int .u8 2] 83)).alloc (.cells #[.int .u8 1] 83)).drewN m) gp gq g n p) := hide (fun m => by
      have hb2 := below_drewN ((HB.out.alloc HB.out.size (.cells #[.int .u8 1] 83))) m
      exact ⟨hb2, h.below hb2⟩)
    by_cases hh : p.how k = 1
    · have HR : Hid (p.free k = (p.put k 0, 0)) := hide (by rw [HT.out, if_pos hc, if_pos hh])
      have e1 : (p.how k == 1) = true := by rw [hh]; rfl
      rw [e1] at HI
      clear HT HA hc hb hk hcn e1 hh h
      generalize p.free k = R at *
      go_enter Try.func26, Try.ntmps26
      go_wp2_with fail
      refine HC.out.mono ?_
      rintro e w1 ⟨rfl, m, rfl⟩
      go_wp2_with fail
      refine (HI.out m).mono ?_
      rintro e w1 ⟨rfl, m', rfl⟩
      go_wp2_with fail
      refine (HS0.out _ (HQ.out (m + m')).2).mono ?_
      rintro e w2 ⟨rfl, h2, f2⟩
      have H2 := hide h2
      have F2 := hide ((Frm.below (S := SP gp gq) (HQ.out (m + m')).1).trans f2)
      clear h2 f2
      go_wp2
      go_ret
      exact ⟨by rw [HR.out]; rfl, by rw [HR.out]; exact H2.out, F2.out⟩
    · have HR : Hid (p.free k = (p.put k 3, 0)) := hide (by rw [HT.out, if_pos hc, if_neg hh])
      have e1 : (p.how k == 1) = false := by simpa using hh
      rw [e1] at HI
      clear HT HA hc hb hk hcn e1 hh h
      generalize p.free k = R at *
      go_enter Try.func26, Try.ntmps26
      go_wp2_with fail
      refine HC.out.mono ?_
      rintro e w1 ⟨rfl, m, rfl⟩
      go_wp2_with fail
      refine (HI.out m).mono ?_
      rintro e w1 ⟨rfl, m', rfl⟩
      go_wp2_with fail
      refine (HS3.out _ (HQ.out (m + m')).2).mono ?_
      rintro e w2 ⟨rfl, h2, f2⟩
      have H2 := hide h2
      have F2 := hide ((Frm.below (S := SP gp gq) (HQ.out (m + m')).1).trans f2)
      clear h2 f2
      go_wp2
      go_ret
      exact ⟨by rw [HR.out]; rfl, by rw [HR.out]; exact H2.out, F2.out⟩
  · have HR : Hid (p.free k = (p, p.chk k [1, 2])) := hide (by rw [HT.out, if_neg hc])
    have e1 : (p.chk k [1, 2] != 0) = true := by simpa using hc
    have HQ : Hid (∀ m, Below w.heap.size w ((w.alloc (.cells #[.int .u8 1, .int .u8 2] 83)).drewN m) ∧ IsP ((w.alloc (.cells #[.int .u8 1, .int .u8 2] 83)).drewN m) gp gq g n p) := hide (fun m => by
      have hb2 := below_drewN HB.out m
      exact ⟨hb2, h.below hb2⟩)
    clear HT HA hc h
    generalize p.free k = R at *
    generalize p.chk k [1, 2] = E at *
    go_enter Try.func26, Try.ntmps26
    go_wp2_with fail
    refine HC.out.mono ?_
    rintro e w1 ⟨rfl, m, rfl⟩
    go_wp2
    go_ret
    exact ⟨by rw [HR.out]; rfl, by rw [HR.out]; exact (HQ.out m).2, Frm.below (HQ.out m).1⟩
end Go.Proofs.Ytecmfpgccmmlpaa

/- pages: has, is, set, check, told -/
import Derived.Test.YtecmfpgccmmlpaaPe
import Derived.Deep.QuietTactic
import Derived.BigQuiet
namespace Go.Proofs.Ytecmfpgccmmlpaa
open Go.RowKit
set_option maxRecDepth 100000
set_option linter.unusedVariables false
set_option linter.unusedSimpArgs false
theorem PC.drewN {w : World} {gp gq g : Nat} {p : Pg} (h : PC w gp gq g p) (m : Nat) : PC (w.drewN m) gp gq g p := ⟨h.c0, h.c4, h.c6, h.c7, h.j0, h.j1, h.l1⟩
set_option maxHeartbeats 1000000 in
theorem has_q {w : World} {gp gq g n : Nat} {p : Pg} (h : IsP w gp gq g n p) (k : Int) (h0 : -9223372036854775808 ≤ k) (h1 : k ≤ 9223372036854775807) : Calls Try.prog 59 #[.pointer (some ⟨gp, 0, none⟩), .int .i64 k] w fun e w' => e = .returned (.bool (p.has k)) ∧ ∃ m, w' = w.drewN m := by
  have HP := hide (fun m => pfirst_any (h.pc.drewN m))
  have c6 := h.pc.c6
  have j0 := h.pc.j0
  have j1 := h.pc.j1
  have l1 := h.pc.l1
  have HT : Hid (p.has k = decide (2 + p.sup.jn ≤ k ∧ k - (2 + p.sup.jn) < p.ps.length)) := hide rfl
  clear h
  generalize p.has k = B at *
  generalize p.sup.jn = jn at *
  generalize p.ps.length = L at *
  by_cases d1 : 2 + jn ≤ k
  · have e1 : decide (2 + jn ≤ k) = true := decide_eq_true d1
    have hw : IntKind.i64.wrap (k - (2 + jn)) = k - (2 + jn) := by rw [IntKind.wrap_i64]; omega
    by_cases d2 : k - (2 + jn) < L
    · have e2 : decide (k - (2 + jn) < (L : Int)) = true := decide_eq_true d2
      have HR : Hid (B = true) := hide (by rw [HT.out]; exact decide_eq_true ⟨d1, d2⟩)
      clear d1 d2 HT
      go_enter Try.func59, Try.ntmps59
      go_wp2_with fail
      go_quiet ((go_at_call 56; exact Calls.quiet_of_same (HP.out _)))
      all_goals
        go_wp2
        go_ret
        exact ⟨by rw [HR.out]; rfl, _, rfl⟩
    · have e2 : decide (k - (2 + jn) < (L : Int)) = false := decide_eq_false d2
      have HR : Hid (B = false) := hide (by rw [HT.out]; exact decide_eq_false (fun h => d2 h.2))
      clear d1 d2 HT
      go_enter Try.func59, Try.ntmps59
      go_wp2_with fail
      go_quiet ((go_at_call 56; exact Calls.quiet_of_same (HP.out _)))
      all_goals
        go_wp2
        go_ret
        exact ⟨by rw [HR.out]; rfl, _, rfl⟩
  · have e1 : decide (2 + jn ≤ k) = false := decide_eq_false d1
    have HR : Hid (B = false) := hide (by rw [HT.out]; exact decide_eq_false (fun h => d1 h.1))
    clear HT
    go_enter Try.func59, Try.ntmps59
    go_wp2_with fail
    go_quiet ((go_at_call 56; exact Calls.quiet_of_same (HP.out _)))
    all_goals
      go_wp2
      go_ret
      exact ⟨by rw [HR.out]; rfl, _, rfl⟩
theorem told_any {w : World} {gp gq g n : Nat} {p : Pg} (h : IsP w gp gq g n p) (e0 : Int) : Calls Try.prog 49 #[.pointer (some ⟨gp, 0, none⟩), .int .i64 e0] w fun e w' => e = .returned (.int .i64 e0) ∧ IsP w' gp gq g n (p.told e0) ∧ Frm (SP gp gq) w w' := by
  have c7 := h.pc.c7
  have f7 := froz_bk h.blk 7
  have HN : Hid (IsP (w.setCell ⟨gp, 7, none⟩ (.bool (p.bad || e0 == 8))) gp gq g n (p.told e0)) := hide ⟨by rw [blk_set h.blk]; rfl, by
    obtain ⟨cur, hh, hc⟩ := h.row
    exact ⟨cur, by rw [Below.heap_setCell _ _ _ _ (fun e => h.ne e.symm)]; exact hh, hc⟩, h.may, h.tot, h.n1, h.sm, h.n0⟩
  have HF : Hid (Frm (SP gp gq) w (w.setCell ⟨gp, 7, none⟩ (.bool (p.bad || e0 == 8)))) := hide (Frm.set (S := SP gp gq) (Frm.refl _ _) (.inl rfl) _)
  clear h
  generalize p.told e0 = P at *
  generalize p.bad = bd at *
  generalize hE : (e0 == 8) = E at *
  cases bd
  · simp only [Bool.false_or] at HN HF
    go_enter Try.func49, Try.ntmps49
    go_wp2
    go_ret
    exact ⟨rfl, HN.out, HF.out⟩
  · simp only [Bool.true_or] at HN HF
    go_enter Try.func49, Try.ntmps49
    go_wp2
    go_ret
    exact ⟨rfl, HN.out, HF.out⟩

theorem IsP.setCell {w : World} {gp gq g n : Nat} {p : Pg} (h : IsP w gp gq g n p) (j s : Nat) (hs : s < 4) : IsP (w.setCell ⟨gq, j, none⟩ (.int .u8 (s : Nat))) gp gq g n { p with ps := p.ps.set j s } :=
  ⟨by rw [Below.heap_setCell _ _ _ _ h.ne, h.blk]; simp, h.row.set j s, h.may, by simpa using h.tot, h.n1, h.sm.set j hs, by simpa using h.n0⟩
theorem RowS.isB {w : World} {g : Nat} {ps : List Nat} (h : RowS w g ps) (hs : SmS ps) (hl : ps.length ≤ 1024) : IsB w (some ⟨g, 0, none⟩) ps.length ps.length ps :=
  ⟨rfl, Nat.le_refl _, by unfold maxLen; omega, fun x hx => by have := hs x hx; omega, .inr ⟨g, 0, rfl, h.lt, fun i hi => by rw [Nat.zero_add]; exact h.cell hi⟩⟩
/-- a page's place in the row -/
theorem Pg.place {p : Pg} {k : Int} (h : p.has k = true) : ∃ j : Nat, j < p.ps.length ∧ k - (2 + p.sup.jn) = (j : Int) ∧ p.spot k = j := by
  obtain ⟨h1, h2⟩ := p.of_has h
  exact ⟨(k - (2 + p.sup.jn)).toNat, by omega, by omega, rfl⟩
set_option maxHeartbeats 1000000 in
theorem is_q {w : World} {gp gq g n : Nat} {p : Pg} (h : IsP w gp gq g n p) (k : Int) (h0 : -9223372036854775808 ≤ k) (h1 : k ≤ 9223372036854775807) (a : Option Addr) (len cap : Nat) (l : List Nat) (hB : IsB w a len cap l) (hl : len ≤ 1024) : Calls Try.prog 48 #[.pointer (some ⟨gp, 0, none⟩), .int .i64 k, .slice a len cap] w fun e w' => e = .returned (.bool (p.is k l)) ∧ ∃ m, w' = w.drewN m := by
  have HH := hide (fun m => has_q (h.below (below_drewN (Below.refl _ _) m)) k h0 h1)
  have HP := hide (fun m => pfirst_any (h.pc.drewN m))
  have c6 := h.pc.c6
  have l1 := h.pc.l1
  have HI : Hid (p.is k l = (p.has k && l.contains (p.how k))) := hide rfl
  by_cases hk : p.has k = true
  · obtain ⟨j, hj, hkj, hsp⟩ := Pg.place hk
    have hc := h.row.cell hj
    have HC := hide (fun m => contains_any (w.drewN m) a len cap l (hB.below (below_drewN (Below.refl _ _) m)) hl (p.ps.getD j 0))
    have hw : IntKind.i64.wrap (k - (2 + p.sup.jn)) = (j : Int) := by rw [hkj, IntKind.wrap_i64]; omega
    have HR : Hid (p.is k l = l.contains (p.ps.getD j 0)) := hide (by rw [HI.out, hk, Bool.true_and, Pg.how, hsp])
    rw [hk] at HH
    clear h hB HI hkj hsp
    generalize p.is k l = B at *
    generalize l.contains (p.ps.getD j 0) = C at *
    generalize p.ps.getD j 0 = x at *
    generalize p.sup.jn = jn at *
    generalize p.ps.length = L at *
    clear hk
    go_enter Try.func48, Try.ntmps48
    go_wp2_with fail
    go_quiet ((first | (go_at_call 56; exact Calls.quiet_of_same (HP.out _)) | (go_at_call 59; exact Calls.quiet_of (HH.out _)) | (go_at_call 65; exact Calls.quiet_of_same (HC.out _))))
    go_wp2
    go_ret
    exact ⟨by rw [HR.out]; rfl, _, rfl⟩
  · rw [Bool.not_eq_true] at hk
    have HR : Hid (p.is k l = false) := hide (by rw [HI.out, hk, Bool.false_and])
    rw [hk] at HH
    clear h hB HI
    generalize p.is k l = B at *
    clear hk
    go_enter Try.func48, Try.ntmps48
    go_wp2_with fail
    go_quiet ((first | (go_at_call 56; exact Calls.quiet_of_same (HP.out _)) | (go_at_call 59; exact Calls.quiet_of (HH.out _))))
    go_wp2
    go_ret
    exact ⟨by rw [HR.out]; rfl, _, rfl⟩
theorem check_q {w : World} {gp gq g n : Nat} {p : Pg} (h : IsP w gp gq g n p) (k : Int) (h0 : -9223372036854775808 ≤ k) (h1 : k ≤ 9223372036854775807) (a : Option Addr) (len cap : Nat) (l : List Nat) (hB : IsB w a len cap l) (hl : len ≤ 1024) : Calls Try.prog 57 #[.pointer (some ⟨gp, 0, none⟩), .int .i64 k, .slice a len cap] w fun e w' => e = .returned (.int .i64 (p.chk k l)) ∧ ∃ m, w' = w.drewN m := by
  have HH := hide (has_q h k h0 h1)
  have HI := hide (fun m => is_q (h.below (below_drewN (Below.refl _ _) m)) k h0 h1 a len cap l (hB.below (below_drewN (Below.refl _ _) m)) hl)
  have HD := hide (pready_any h)
  have HT : Hid (p.chk k l = if p.bad then 9 else if p.has k = false then 2 else if l.contains (p.how k) then 0 else 9) := hide rfl
  have HS : Hid (p.is k l = (p.has k && l.contains (p.how k))) := hide rfl
  unfold Pg.rdy at HD
  clear h hB
  generalize p.chk k l = R at *
  generalize p.is k l = S at *
  generalize l.contains (p.how k) = C at *
  cases hb : p.bad
  · rw [hb] at HD HT
    cases hk : p.has k
    · rw [hk] at HH HT HS
      have HR : Hid (R = 2) := hide (by rw [HT.out]; rfl)
      clear HT HS HI hk hb
      go_enter Try.func57, Try.ntmps57
      go_wp2_with fail
      refine HD.out.mono ?_
      rintro e w1 ⟨rfl, rfl⟩
      go_wp2_with fail
      refine HH.out.mono ?_
      rintro e w1 ⟨rfl, m, rfl⟩
      go_wp2
      go_ret
      exact ⟨by rw [HR.out]; rfl, _, rfl⟩
    · rw [hk] at HH HT HS
      have HS2 : Hid (S = C) := hide (by rw [HS.out]; rfl)
      rw [HS2.out] at HI
      have HR : Hid (R = if C then 0 else 9) := hide (by rw [HT.out]; rfl)
      clear HT HS HS2 hk hb
      cases C
      · go_enter Try.func57, Try.ntmps57
        go_wp2_with fail
        refine HD.out.mono ?_
        rintro e w1 ⟨rfl, rfl⟩
        go_wp2_with fail
        refine HH.out.mono ?_
        rintro e w1 ⟨rfl, m, rfl⟩
        go_wp2_with fail
        refine (HI.out m).mono ?_
        rintro e w1 ⟨rfl, m1, rfl⟩
        go_wp2
        go_ret
        exact ⟨by rw [HR.out]; rfl, m + m1, rfl⟩
      · go_enter Try.func57, Try.ntmps57
        go_wp2_with fail
        refine HD.out.mono ?_
        rintro e w1 ⟨rfl, rfl⟩
        go_wp2_with fail
        refine HH.out.mono ?_
        rintro e w1 ⟨rfl, m, rfl⟩
        go_wp2_with fail
        refine (HI.out m).mono ?_
        rintro e w1 ⟨rfl, m1, rfl⟩
        go_wp2
        go_ret
        exact ⟨by rw [HR.out]; rfl, m + m1, rfl⟩
  · rw [hb] at HD HT
    have HR : Hid (R = 9) := hide (by rw [HT.out]; rfl)
    clear HT HS HI HH hb
    go_enter Try.func57, Try.ntmps57
    go_wp2_with fail
    refine HD.out.mono ?_
    rintro e w1 ⟨rfl, rfl⟩
    go_wp2
    go_ret
    exact ⟨by rw [HR.out]; rfl, 0, rfl⟩
theorem check_nil (k : Int) (v : Value) (w : World) : Calls Try.prog 57 #[.pointer none, .int .i64 k, v] w fun e w' => e = .returned (.int .i64 1) ∧ w' = w := by
  go_enter Try.func57, Try.ntmps57
  go_wp2_with fail
  refine (pready_nil _).mono ?_
  rintro e w1 ⟨rfl, rfl⟩
  go_wp2
  go_ret
  exact ⟨rfl, rfl⟩
theorem set_any {w : World} {gp gq g n : Nat} {p : Pg} (h : IsP w gp gq g n p) (k : Int) (hk : p.has k = true) (s : Nat) (hs : s < 4) : Calls Try.prog 58 #[.pointer (some ⟨gp, 0, none⟩), .int .i64 k, .int .u8 (s : Nat)] w fun e w' => e = .returned (.tuple #[]) ∧ IsP w' gp gq g n (p.put k s) ∧ Frm (SP gp gq) w w' := by
  obtain ⟨j, hj, hkj, hsp⟩ := Pg.place hk
  have HP : Hid (Calls Try.prog 56 #[.pointer (some ⟨gp, 0, none⟩)] w.drew fun e w' => e = .returned (.int .i64 (2 + p.sup.jn)) ∧ w' = w.drew) := hide (pfirst_any (h.pc.drewN 1))
  have c6 : w.drew.cell? ⟨gp, 6, none⟩ = _ := h.pc.c6
  have hce : w.drew.cell? ⟨gq, j, none⟩ = _ := h.row.cell hj
  have hfz : w.drew.frozen? ⟨gq, j, none⟩ = false := h.row.frozen j
  have l1 := h.pc.l1
  have HN : Hid (IsP (w.drew.setCell ⟨gq, j, none⟩ (.int .u8 (s : Nat))) gp gq g n (p.put k s)) := hide (by rw [Pg.put, hsp]; exact (h.below (Below.refl _ _).drew).setCell j s hs)
  have HF : Hid (Frm (SP gp gq) w (w.drew.setCell ⟨gq, j, none⟩ (.int .u8 (s : Nat)))) := hide (Frm.set (S := SP gp gq) (Frm.below (Below.refl _ _).drew) (.inr rfl) _)
  have hw : IntKind.i64.wrap (k - (2 + p.sup.jn)) = (j : Int) := by rw [hkj, IntKind.wrap_i64]; omega
  clear h hk hkj hsp
  generalize p.put k s = P at *
  generalize p.ps.getD j 0 = x at *
  generalize p.sup.jn = jn at *
  generalize p.ps.length = L at *
  go_enter Try.func58, Try.ntmps58
  go_wp2_with fail
  go_region_with (go_at_call 56; with_reducible refine HP.out.mono ?_; rintro e w2 ⟨rfl, rfl⟩)
  all_goals
    go_wp2
    go_end0
    exact ⟨rfl, HN.out, HF.out⟩
end Go.Proofs.Ytecmfpgccmmlpaa

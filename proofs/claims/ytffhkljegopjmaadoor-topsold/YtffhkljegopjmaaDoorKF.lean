/- Cell, the changes of one cell -/
import Derived.Test.YtffhkljegopjmaaDoorKE
namespace Go.Proofs.YtffhkljegopjmaaDoor
open Go.RowKit
set_option maxRecDepth 40000
/-- what Cell answers -/
def cellR (l : List Cl) (it wa : Int) : Cl × Int := if checkE l = 0 then (if placeB it wa = true then (cellOf l it wa, 0) else (Cl0, 2)) else (Cl0, checkE l)
set_option maxHeartbeats 1000000 in
theorem cell_any (a : Option Addr) (len cap : Nat) (l : List Cl) (it wa : Int) (w : World) (h : IsC w a len cap l) : Calls Tryd.prog 12 #[.slice a len cap, .int .i64 it, .int .i64 wa] w fun e w' => e = .returned (.tuple #[vc (cellR l it wa).1, .int .i64 (cellR l it wa).2]) ∧ Below w.heap.size w w' := by
  have HV := hide h
  have HR : Hid (cellR l it wa = if checkE l = 0 then (if placeB it wa = true then (cellOf l it wa, 0) else (Cl0, 2)) else (Cl0, checkE l)) := hide rfl
  generalize cellR l it wa = R at *
  obtain ⟨R1, R2⟩ := R
  have HB0 := hide (Below.refl w.heap.size w)
  have HCK := hide (fun W (hW : IsC W a len cap l) => check_any a len cap l W hW)
  have HPL := hide (fun W => place_any it wa W)
  have HFI := hide (fun (hG : Good l) W (hW : IsC W a len cap l) => find_any a len cap l it wa W hW hG)
  have HG := hide (checkE_zero (l := l))
  have HC9 := hide (checkE_cases l)
  clear h
  generalize placeB it wa = pl at *
  generalize cellOf l it wa = co at *
  go_enter Tryd.func12, Tryd.ntmps12
  go_wp2_with fail
  generalize hW0 : w.alloc (.cells #[.int .i64 0, .int .i64 0, .int .i64 0, .int .i64 0, .int .i64 0, .int .i64 0] 43) = W0
  have HB1 : Hid (Below w.heap.size w W0) := hide (hW0 ▸ HB0.out.alloc (Nat.le_refl _) _)
  have HS1 : Hid (W0.heap.size = w.heap.size + 1) := hide (by rw [← hW0]; simp)
  have HG0 : Hid (Blk W0 w.heap.size Cl0) := hide (by rw [← hW0]; exact heap_alloc_new _ _)
  clear hW0
  refine (HCK.out W0 (HV.out.below' HB1.out)).mono ?_
  rintro e w1 ⟨rfl, hb1⟩
  have HB2 := hide (HB1.out.trans (hb1.mono HB1.out.size))
  have HS2 : Hid (w.heap.size + 1 ≤ w1.heap.size) := hide (HS1.out ▸ hb1.size)
  have HG2 : Hid (Blk w1 w.heap.size Cl0) := hide (HG0.out.below (by rw [HS1.out]; omega) hb1)
  clear hb1 HG0 HB1 HS1
  rcases HC9.out with ⟨hg, h0⟩ | ⟨hg, h0⟩
  · rw [if_pos h0] at HR
    rw [h0]
    have HGD := hide hg
    clear h0 hg
    cases pl
    · obtain ⟨c1, c2, c3, c4, c5, c6⟩ := HG2.out.cells
      have f1 := HG2.out.froz
      simp only [Cl0, Nat.zero_add] at c1 c2 c3 c4 c5 c6
      simp only [Bool.false_eq_true, if_false, Prod.mk.injEq] at HR
      go_wp2_with (first | (go_at_call 19; refine (HPL.out _).mono ?_; rintro e w' ⟨rfl, he'⟩; obtain rfl := he'.symm; clear he'))
      refine bodyPost_ret (res2c rfl _ (put6 w1 w.heap.size Cl0) w.heap.size Cl0 (put6_blk HG2.out _) rfl) rfl ?_
      exact ⟨by rw [HR.out.1, HR.out.2]; rfl, put6_below HB2.out (Nat.le_refl _) Cl0⟩
    · simp only [if_true, Prod.mk.injEq] at HR
      go_wp2_with (first | (go_at_call 19; refine (HPL.out _).mono ?_; rintro e w' ⟨rfl, he'⟩; obtain rfl := he'.symm; clear he'))
      refine (HFI.out HGD.out w1 (HV.out.below' HB2.out)).mono ?_
      rintro e w2 ⟨rfl, hb2⟩
      have HB3 := hide (HB2.out.trans (hb2.mono HB2.out.size))
      have HG3 : Hid (Blk w2 w.heap.size Cl0) := hide (HG2.out.below (by have := HS2.out; omega) hb2)
      have HS3 : Hid (w.heap.size < w2.heap.size) := hide (by have := hb2.size; have := HS2.out; omega)
      clear hb2 HG2 HB2
      obtain ⟨c1, c2, c3, c4, c5, c6⟩ := HG3.out.cells
      have f1 := HG3.out.froz
      simp only [Cl0, Nat.zero_add] at c1 c2 c3 c4 c5 c6
      obtain ⟨y1, y2, y3, y4, y5, y6⟩ := co
      rename_i a1 K0 a0
      have HA1 := hide a1
      clear a1 c1 c2 c3 c4 c5 c6 f1
      go_wp2
      generalize hW4 : w2.alloc (.cells #[.int .i64 y1, .int .i64 y2, .int .i64 y3, .int .i64 y4, .int .i64 y5, .int .i64 y6] 43) = W4
      have HB4 : Hid (Below w.heap.size w W4) := hide (hW4 ▸ HB3.out.alloc HB3.out.size _)
      have HG4 : Hid (Blk W4 w.heap.size Cl0) := hide (hW4 ▸ (Below.heap_alloc _ _ _ HS3.out).trans HG3.out)
      have HY4 : Hid (Blk W4 w2.heap.size ⟨y1, y2, y3, y4, y5, y6⟩) := hide (hW4 ▸ heap_alloc_new _ _)
      clear hW4
      obtain ⟨c1, c2, c3, c4, c5, c6⟩ := HG4.out.cells
      obtain ⟨d1, d2, d3, d4, d5, d6⟩ := HY4.out.cells
      have f1 := HG4.out.froz
      simp only [Cl0, Nat.zero_add] at c1 c2 c3 c4 c5 c6 d1 d2 d3 d4 d5 d6
      refine HA1.out _ _ ?_
      go_wp2
      refine bodyPost_ret (res2c rfl _ (put6 W4 w.heap.size ⟨y1, y2, y3, y4, y5, y6⟩) w.heap.size ⟨y1, y2, y3, y4, y5, y6⟩ (put6_blk HG4.out _) rfl) rfl ?_
      exact ⟨by rw [HR.out.1, HR.out.2]; rfl, put6_below HB4.out (Nat.le_refl _) ⟨y1, y2, y3, y4, y5, y6⟩⟩
  · rw [if_neg (by rw [h0]; decide)] at HR
    obtain ⟨c1, c2, c3, c4, c5, c6⟩ := HG2.out.cells
    have f1 := HG2.out.froz
    simp only [Cl0, Nat.zero_add] at c1 c2 c3 c4 c5 c6
    simp only [Prod.mk.injEq] at HR
    rw [h0]
    rw [h0] at HR
    clear h0
    go_wp2
    refine bodyPost_ret (res2c rfl _ (put6 w1 w.heap.size Cl0) w.heap.size Cl0 (put6_blk HG2.out _) rfl) rfl ?_
    exact ⟨by rw [HR.out.1, HR.out.2]; rfl, put6_below HB2.out (Nat.le_refl _) Cl0⟩
/-- what a change makes of a cell, and its error -/
def chgR (k : Nat) (c : Cl) (n : Int) : Int × Cl :=
  match k with
  | 0 => if 1125899906842624 < c.al + n then (5, c) else (0, { c with fr := c.fr + n, al := c.al + n })
  | 1 => if c.fr < n then (13, c) else (0, { c with fr := c.fr - n, he := c.he + n })
  | 2 => if c.he < n then (13, c) else (0, { c with he := c.he - n, fr := c.fr + n })
  | 3 => if c.he < n then (13, c) else (0, { c with he := c.he - n, ou := c.ou + n })
  | _ => if c.ou < n then (13, c) else (0, { c with ou := c.ou - n, fr := c.fr + n })
/-- numbers that do not go round -/
def SmallN (n : Int) : Prop := -4503599627370496 ≤ n ∧ n ≤ 4503599627370496
def SmallC (c : Cl) : Prop := SmallN c.fr ∧ SmallN c.he ∧ SmallN c.ou ∧ SmallN c.al
/-- what shift does -/
def ShiftP (g p q : Nat) (x y n : Int) (w : World) (e : Ending) (w' : World) : Prop := (x < n ∧ e = .returned (.int .i64 13) ∧ w' = w) ∨ (¬ x < n ∧ e = .returned (.int .i64 0) ∧ w' = (w.setCell ⟨g, p, none⟩ (.int .i64 (x - n))).setCell ⟨g, q, none⟩ (.int .i64 (y + n)))
theorem shift_any (g p q : Nat) (x y n : Int) (w : World) (h1 : w.cell? ⟨g, p, none⟩ = some (.int .i64 x)) (h2 : w.cell? ⟨g, q, none⟩ = some (.int .i64 y)) (f : ∀ j, w.frozen? ⟨g, j, none⟩ = false) (hpq : p ≠ q) (hx : SmallN x) (hy : SmallN y) (hn : SmallN n) :
    Calls Tryd.prog 26 #[.pointer (some ⟨g, p, none⟩), .pointer (some ⟨g, q, none⟩), .int .i64 n] w (ShiftP g p q x y n w) := by
  have hw1 : IntKind.i64.wrap (x - n) = x - n := wrap64 (by unfold SmallN at *; omega) (by unfold SmallN at *; omega)
  have hw2 : IntKind.i64.wrap (y + n) = y + n := wrap64 (by unfold SmallN at *; omega) (by unfold SmallN at *; omega)
  have hqp : q ≠ p := fun e => hpq e.symm
  clear hx hy hn
  by_cases hlt : x < n
  · go_enter Tryd.func26, Tryd.ntmps26
    go_wp2
    go_ret
    exact .inl ⟨hlt, rfl, rfl⟩
  · go_enter Tryd.func26, Tryd.ntmps26
    go_wp2
    go_ret
    exact .inr ⟨by omega, rfl, rfl⟩
end Go.Proofs.YtffhkljegopjmaaDoor

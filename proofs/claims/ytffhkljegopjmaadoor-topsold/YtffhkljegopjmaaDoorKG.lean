/- the closures that change a cell -/
import Derived.Test.YtffhkljegopjmaaDoorKF
import Derived.Test.YtffhkljegopjmaaDoorKH
namespace Go.Proofs.YtffhkljegopjmaaDoor
open Go.RowKit
set_option maxRecDepth 40000
/-- what a closure's call comes to -/
def ChgP (k : Nat) (c : Cl) (n : Int) (g : Nat) (w : World) (e : Ending) (w' : World) : Prop := e = .returned (.int .i64 (chgR k c n).1) ∧ Blk w' g (chgR k c n).2 ∧ Below g w w'
theorem set2_blk {w : World} {g p q : Nat} {cs cs' : Array Value} {u v : Value} (h : w.heap[g]? = some (.cells cs 43 (0, 0))) (he : (cs.setIfInBounds p u).setIfInBounds q v = cs') : ((w.setCell ⟨g, p, none⟩ u).setCell ⟨g, q, none⟩ v).heap[g]? = some (.cells cs' 43 (0, 0)) := by
  rw [blk_set (blk_set h _) _, he]
theorem set2_below {n : Nat} {a w : World} {g p q : Nat} (h : Below n a w) (hn : n ≤ g) (u v : Value) : Below n a ((w.setCell ⟨g, p, none⟩ u).setCell ⟨g, q, none⟩ v) := (h.setCell hn _).setCell hn _
theorem set2_other {w : World} {g p q nb j : Nat} (hn : nb ≠ g) (u v : Value) : ((w.setCell ⟨g, p, none⟩ u).setCell ⟨g, q, none⟩ v).cell? ⟨nb, j, none⟩ = w.cell? ⟨nb, j, none⟩ :=
  (World.cell?_of_block (Below.heap_setCell _ _ _ _ hn)).trans (World.cell?_of_block (Below.heap_setCell _ _ _ _ hn))
theorem clo1_any (g nb : Nat) (c : Cl) (n : Int) (w : World) (h : Blk w g c) (hb : w.cell? ⟨nb, 0, none⟩ = some (.int .i64 n)) (hc : SmallC c) (hn : SmallN n) (hng : nb ≠ g) : Calls Tryd.prog 25 #[.pointer (some ⟨g, 0, none⟩), .pointer (some ⟨nb, 0, none⟩)] w (ChgP 1 c n g w) := by
  have HG := hide h
  have HN := hide (show w.drew.cell? ⟨nb, 0, none⟩ = some (.int .i64 n) from hb)
  have HK : Hid (∀ u v, ((w.drew.setCell ⟨g, 2, none⟩ u).setCell ⟨g, 3, none⟩ v).cell? ⟨nb, 0, none⟩ = some (.int .i64 n)) := hide (fun u v => (set2_other hng u v).trans hb)
  have HSH := hide (shift_any g 2 3 c.fr c.he n w.drew (by simpa using h.cells.2.2.1) (by simpa using h.cells.2.2.2.1) h.froz (by decide) hc.1 hc.2.1 hn)
  have HB := hide (Below.refl g w)
  clear h hb hc hn hng
  by_cases hlt : c.fr < n
  · have HS2 : Hid (Calls Tryd.prog 26 #[.pointer (some ⟨g, 2, none⟩), .pointer (some ⟨g, 3, none⟩), .int .i64 n] w.drew (fun e w' => e = .returned (.int .i64 13) ∧ w' = w.drew)) := hide (HSH.out.mono fun e w' h => by
      rcases h with h | h
      · exact h.2
      · exact absurd hlt h.1)
    have HL := hide hlt
    clear hlt
    go_enter Tryd.func25, Tryd.ntmps25
    go_wp2_with fail
    go_region_held (fun W : World => W.cell? ⟨nb, 0, none⟩ = some (.int .i64 n)) (first | exact HN.out) (first | (go_at_call 26; refine HS2.out.mono ?_; rintro e w' ⟨rfl, rfl⟩))
    go_wp2
    go_ret
    have hr : chgR 1 c n = (13, c) := if_pos HL.out
    exact ⟨by rw [hr]; rfl, by rw [hr]; exact HG.out, HB.out.drew⟩
  · have HS2 : Hid (Calls Tryd.prog 26 #[.pointer (some ⟨g, 2, none⟩), .pointer (some ⟨g, 3, none⟩), .int .i64 n] w.drew (fun e w' => e = .returned (.int .i64 0) ∧ w' = (w.drew.setCell ⟨g, 2, none⟩ (.int .i64 (c.fr - n))).setCell ⟨g, 3, none⟩ (.int .i64 (c.he + n)))) := hide (HSH.out.mono fun e w' h => by
      rcases h with h | h
      · exact absurd h.1 hlt
      · exact h.2)
    have HL := hide (show chgR 1 c n = (0, { c with fr := c.fr - n, he := c.he + n }) from if_neg hlt)
    clear hlt
    go_enter Tryd.func25, Tryd.ntmps25
    go_wp2_with fail
    go_region_held (fun W : World => W.cell? ⟨nb, 0, none⟩ = some (.int .i64 n)) (first | exact HN.out | exact HK.out _ _) (first | (go_at_call 26; refine HS2.out.mono ?_; rintro e w' ⟨rfl, rfl⟩))
    go_wp2
    go_ret
    exact ⟨by rw [HL.out]; rfl, by rw [HL.out]; exact set2_blk HG.out rfl, set2_below HB.out.drew (Nat.le_refl _) _ _⟩
theorem clo3_any (g nb : Nat) (c : Cl) (n : Int) (w : World) (h : Blk w g c) (hb : w.cell? ⟨nb, 0, none⟩ = some (.int .i64 n)) (hc : SmallC c) (hn : SmallN n) (hng : nb ≠ g) : Calls Tryd.prog 31 #[.pointer (some ⟨g, 0, none⟩), .pointer (some ⟨nb, 0, none⟩)] w (ChgP 3 c n g w) := by
  have HG := hide h
  have HN := hide (show w.drew.cell? ⟨nb, 0, none⟩ = some (.int .i64 n) from hb)
  have HK : Hid (∀ u v, ((w.drew.setCell ⟨g, 3, none⟩ u).setCell ⟨g, 4, none⟩ v).cell? ⟨nb, 0, none⟩ = some (.int .i64 n)) := hide (fun u v => (set2_other hng u v).trans hb)
  have HSH := hide (shift_any g 3 4 c.he c.ou n w.drew (by simpa using h.cells.2.2.2.1) (by simpa using h.cells.2.2.2.2.1) h.froz (by decide) hc.2.1 hc.2.2.1 hn)
  have HB := hide (Below.refl g w)
  clear h hb hc hn hng
  by_cases hlt : c.he < n
  · have HS2 : Hid (Calls Tryd.prog 26 #[.pointer (some ⟨g, 3, none⟩), .pointer (some ⟨g, 4, none⟩), .int .i64 n] w.drew (fun e w' => e = .returned (.int .i64 13) ∧ w' = w.drew)) := hide (HSH.out.mono fun e w' h => by
      rcases h with h | h
      · exact h.2
      · exact absurd hlt h.1)
    have HL := hide hlt
    clear hlt
    go_enter Tryd.func31, Tryd.ntmps31
    go_wp2_with fail
    go_region_held (fun W : World => W.cell? ⟨nb, 0, none⟩ = some (.int .i64 n)) (first | exact HN.out) (first | (go_at_call 26; refine HS2.out.mono ?_; rintro e w' ⟨rfl, rfl⟩))
    go_wp2
    go_ret
    have hr : chgR 3 c n = (13, c) := if_pos HL.out
    exact ⟨by rw [hr]; rfl, by rw [hr]; exact HG.out, HB.out.drew⟩
  · have HS2 : Hid (Calls Tryd.prog 26 #[.pointer (some ⟨g, 3, none⟩), .pointer (some ⟨g, 4, none⟩), .int .i64 n] w.drew (fun e w' => e = .returned (.int .i64 0) ∧ w' = (w.drew.setCell ⟨g, 3, none⟩ (.int .i64 (c.he - n))).setCell ⟨g, 4, none⟩ (.int .i64 (c.ou + n)))) := hide (HSH.out.mono fun e w' h => by
      rcases h with h | h
      · exact absurd h.1 hlt
      · exact h.2)
    have HL := hide (show chgR 3 c n = (0, { c with he := c.he - n, ou := c.ou + n }) from if_neg hlt)
    clear hlt
    go_enter Tryd.func31, Tryd.ntmps31
    go_wp2_with fail
    go_region_held (fun W : World => W.cell? ⟨nb, 0, none⟩ = some (.int .i64 n)) (first | exact HN.out | exact HK.out _ _) (first | (go_at_call 26; refine HS2.out.mono ?_; rintro e w' ⟨rfl, rfl⟩))
    go_wp2
    go_ret
    exact ⟨by rw [HL.out]; rfl, by rw [HL.out]; exact set2_blk HG.out rfl, set2_below HB.out.drew (Nat.le_refl _) _ _⟩
theorem clo4_any (g nb : Nat) (c : Cl) (n : Int) (w : World) (h : Blk w g c) (hb : w.cell? ⟨nb, 0, none⟩ = some (.int .i64 n)) (hc : SmallC c) (hn : SmallN n) (hng : nb ≠ g) : Calls Tryd.prog 33 #[.pointer (some ⟨g, 0, none⟩), .pointer (some ⟨nb, 0, none⟩)] w (ChgP 4 c n g w) := by
  have HG := hide h
  have HN := hide (show w.drew.cell? ⟨nb, 0, none⟩ = some (.int .i64 n) from hb)
  have HK : Hid (∀ u v, ((w.drew.setCell ⟨g, 4, none⟩ u).setCell ⟨g, 2, none⟩ v).cell? ⟨nb, 0, none⟩ = some (.int .i64 n)) := hide (fun u v => (set2_other hng u v).trans hb)
  have HSH := hide (shift_any g 4 2 c.ou c.fr n w.drew (by simpa using h.cells.2.2.2.2.1) (by simpa using h.cells.2.2.1) h.froz (by decide) hc.2.2.1 hc.1 hn)
  have HB := hide (Below.refl g w)
  clear h hb hc hn hng
  by_cases hlt : c.ou < n
  · have HS2 : Hid (Calls Tryd.prog 26 #[.pointer (some ⟨g, 4, none⟩), .pointer (some ⟨g, 2, none⟩), .int .i64 n] w.drew (fun e w' => e = .returned (.int .i64 13) ∧ w' = w.drew)) := hide (HSH.out.mono fun e w' h => by
      rcases h with h | h
      · exact h.2
      · exact absurd hlt h.1)
    have HL := hide hlt
    clear hlt
    go_enter Tryd.func33, Tryd.ntmps33
    go_wp2_with fail
    go_region_held (fun W : World => W.cell? ⟨nb, 0, none⟩ = some (.int .i64 n)) (first | exact HN.out) (first | (go_at_call 26; refine HS2.out.mono ?_; rintro e w' ⟨rfl, rfl⟩))
    go_wp2
    go_ret
    have hr : chgR 4 c n = (13, c) := if_pos HL.out
    exact ⟨by rw [hr]; rfl, by rw [hr]; exact HG.out, HB.out.drew⟩
  · have HS2 : Hid (Calls Tryd.prog 26 #[.pointer (some ⟨g, 4, none⟩), .pointer (some ⟨g, 2, none⟩), .int .i64 n] w.drew (fun e w' => e = .returned (.int .i64 0) ∧ w' = (w.drew.setCell ⟨g, 4, none⟩ (.int .i64 (c.ou - n))).setCell ⟨g, 2, none⟩ (.int .i64 (c.fr + n)))) := hide (HSH.out.mono fun e w' h => by
      rcases h with h | h
      · exact absurd h.1 hlt
      · exact h.2)
    have HL := hide (show chgR 4 c n = (0, { c with ou := c.ou - n, fr := c.fr + n }) from if_neg hlt)
    clear hlt
    go_enter Tryd.func33, Tryd.ntmps33
    go_wp2_with fail
    go_region_held (fun W : World => W.cell? ⟨nb, 0, none⟩ = some (.int .i64 n)) (first | exact HN.out | exact HK.out _ _) (first | (go_at_call 26; refine HS2.out.mono ?_; rintro e w' ⟨rfl, rfl⟩))
    go_wp2
    go_ret
    exact ⟨by rw [HL.out]; rfl, by rw [HL.out]; exact set2_blk HG.out rfl, set2_below HB.out.drew (Nat.le_refl _) _ _⟩
end Go.Proofs.YtffhkljegopjmaaDoor

/- the closures that change a cell -/
import Derived.Test.YtjochdmhhhhgiaaF
import Derived.Test.YtjochdmhhhhgiaaH
namespace Go.Proofs.Ytjochdmhhhhgiaa
open Go.RowKit
/-- what a closure's call comes to -/
def ChgP (k : Nat) (c : Cl) (n : Int) (g : Nat) (w : World) (e : Ending) (w' : World) : Prop := e = .returned (.int .i64 (chgR k c n).1) ∧ Blk w' g (chgR k c n).2 ∧ Below g w w'
theorem set2_blk {w : World} {g p q : Nat} {cs cs' : Array Value} {u v : Value} (h : w.heap[g]? = some (.cells cs 31 (0, 0))) (he : (cs.setIfInBounds p u).setIfInBounds q v = cs') : ((w.setCell ⟨g, p, none⟩ u).setCell ⟨g, q, none⟩ v).heap[g]? = some (.cells cs' 31 (0, 0)) := by
  rw [blk_set (blk_set h _) _, he]
theorem set2_below {n : Nat} {a w : World} {g p q : Nat} (h : Below n a w) (hn : n ≤ g) (u v : Value) : Below n a ((w.setCell ⟨g, p, none⟩ u).setCell ⟨g, q, none⟩ v) := (h.setCell hn _).setCell hn _
theorem set2_other {w : World} {g p q nb j : Nat} (hn : nb ≠ g) (u v : Value) : ((w.setCell ⟨g, p, none⟩ u).setCell ⟨g, q, none⟩ v).cell? ⟨nb, j, none⟩ = w.cell? ⟨nb, j, none⟩ :=
  (World.cell?_of_block (Below.heap_setCell _ _ _ _ hn)).trans (World.cell?_of_block (Below.heap_setCell _ _ _ _ hn))
theorem clo1_any (g nb : Nat) (c : Cl) (n : Int) (w : World) (h : Blk w g c) (hb : w.cell? ⟨nb, 0, none⟩ = some (.int .i64 n)) (hc : SmallC c) (hn : SmallN n) (hng : nb ≠ g) : Calls Try.prog 25 #[.pointer (some ⟨g, 0, none⟩), .pointer (some ⟨nb, 0, none⟩)] w (ChgP 1 c n g w) := by
  have HG := hide h
  have HN := hide (show w.drew.cell? ⟨nb, 0, none⟩ = some (.int .i64 n) from hb)
  have HK : Hid (∀ u v, ((w.drew.setCell ⟨g, 2, none⟩ u).setCell ⟨g, 3, none⟩ v).cell? ⟨nb, 0, none⟩ = some (.int .i64 n)) := hide (fun u v => (set2_other hng u v).trans hb)
  have HSH := hide (shift_any g 2 3 c.fr c.he n w.drew (by simpa using h.cells.2.2.1) (by simpa using h.cells.2.2.2.1) h.froz (by decide) hc.1 hc.2.1 hn)
  have HB := hide (Below.refl g w)
  clear h hb hc hn hng
  by_cases hlt : c.fr < n
  · have HS2 : Hid (Calls Try.prog 26 #[.pointer (some ⟨g, 2, none⟩), .pointer (some ⟨g, 3, none⟩), .int .i64 n] w.drew (fun e w' => e = .returned (.int .i64 13) ∧ w' = w.drew)) := hide (HSH.out.mono fun e w' h => by
      rcases h with h | h
      · exact h.2
      · exact absurd hlt h.1)
    have HL := hide hlt
    clear hlt
    go_enter Try.func25, Try.ntmps25
    go_wp2_with fail
    go_region_held (fun W : World => W.cell? ⟨nb, 0, none⟩ = some (.int .i64 n)) (first | exact HN.out) (first | (go_at_call 26; refine HS2.out.mono ?_; rintro e w' ⟨rfl, rfl⟩))
    go_wp2
    go_ret
    have hr : chgR 1 c n = (13, c) := if_pos HL.out
    exact ⟨by rw [hr]; rfl, by rw [hr]; exact HG.out, HB.out.drew⟩
  · have HS2 : Hid (Calls Try.prog 26 #[.pointer (some ⟨g, 2, none⟩), .pointer (some ⟨g, 3, none⟩), .int .i64 n] w.drew (fun e w' => e = .returned (.int .i64 0) ∧ w' = (w.drew.setCell ⟨g, 2, none⟩ (.int .i64 (c.fr - n))).setCell ⟨g, 3, none⟩ (.int .i64 (c.he + n)))) := hide (HSH.out.mono fun e w' h => by
      rcases h with h | h
      · exact absurd h.1 hlt
      · exact h.2)
    have HL := hide (show chgR 1 c n = (0, { c with fr := c.fr - n, he := c.he + n }) from if_neg hlt)
    clear hlt
    go_enter Try.func25, Try.ntmps25
    go_wp2_with fail
    go_region_held (fun W : World => W.cell? ⟨nb, 0, none⟩ = some (.int .i64 n)) (first | exact HN.out | exact HK.out _ _) (first | (go_at_call 26; refine HS2.out.mono ?_; rintro e w' ⟨rfl, rfl⟩))
    go_wp2
    go_ret
    exact ⟨by rw [HL.out]; rfl, by rw [HL.out]; exact set2_blk HG.out rfl, set2_below HB.out.drew (Nat.le_refl _) _ _⟩
theorem clo2_any (g nb : Nat) (c : Cl) (n : Int) (w : World) (h : Blk w g c) (hb : w.cell? ⟨nb, 0, none⟩ = some (.int .i64 n)) (hc : SmallC c) (hn : SmallN n) (hng : nb ≠ g) : Calls Try.prog 27 #[.pointer (some ⟨g, 0, none⟩), .pointer (some ⟨nb, 0, none⟩)] w (ChgP 2 c n g w) := by
  have HG := hide h
  have HN := hide (show w.drew.cell? ⟨nb, 0, none⟩ = some (.int .i64 n) from hb)
  have HK : Hid (∀ u v, ((w.drew.setCell ⟨g, 3, none⟩ u).setCell ⟨g, 2, none⟩ v).cell? ⟨nb, 0, none⟩ = some (.int .i64 n)) := hide (fun u v => (set2_other hng u v).trans hb)
  have HSH := hide (shift_any g 3 2 c.he c.fr n w.drew (by simpa using h.cells.2.2.2.1) (by simpa using h.cells.2.2.1) h.froz (by decide) hc.2.1 hc.1 hn)
  have HB := hide (Below.refl g w)
  clear h hb hc hn hng
  by_cases hlt : c.he < n
  · have HS2 : Hid (Calls Try.prog 26 #[.pointer (some ⟨g, 3, none⟩), .pointer (some ⟨g, 2, none⟩), .int .i64 n] w.drew (fun e w' => e = .returned (.int .i64 13) ∧ w' = w.drew)) := hide (HSH.out.mono fun e w' h => by
      rcases h with h | h
      · exact h.2
      · exact absurd hlt h.1)
    have HL := hide hlt
    clear hlt
    go_enter Try.func27, Try.ntmps27
    go_wp2_with fail
    go_region_held (fun W : World => W.cell? ⟨nb, 0, none⟩ = some (.int .i64 n)) (first | exact HN.out) (first | (go_at_call 26; refine HS2.out.mono ?_; rintro e w' ⟨rfl, rfl⟩))
    go_wp2
    go_ret
    have hr : chgR 2 c n = (13, c) := if_pos HL.out
    exact ⟨by rw [hr]; rfl, by rw [hr]; exact HG.out, HB.out.drew⟩
  · have HS2 : Hid (Calls Try.prog 26 #[.pointer (some ⟨g, 3, none⟩), .pointer (some ⟨g, 2, none⟩), .int .i64 n] w.drew (fun e w' => e = .returned (.int .i64 0) ∧ w' = (w.drew.setCell ⟨g, 3, none⟩ (.int .i64 (c.he - n))).setCell ⟨g, 2, none⟩ (.int .i64 (c.fr + n)))) := hide (HSH.out.mono fun e w' h => by
      rcases h with h | h
      · exact absurd h.1 hlt
      · exact h.2)
    have HL := hide (show chgR 2 c n = (0, { c with he := c.he - n, fr := c.fr + n }) from if_neg hlt)
    clear hlt
    go_enter Try.func27, Try.ntmps27
    go_wp2_with fail
    go_region_held (fun W : World => W.cell? ⟨nb, 0, none⟩ = some (.int .i64 n)) (first | exact HN.out | exact HK.out _ _) (first | (go_at_call 26; refine HS2.out.mono ?_; rintro e w' ⟨rfl, rfl⟩))
    go_wp2
    go_ret
    exact ⟨by rw [HL.out]; rfl, by rw [HL.out]; exact set2_blk HG.out rfl, set2_below HB.out.drew (Nat.le_refl _) _ _⟩
theorem clo3_any (g nb : Nat) (c : Cl) (n : Int) (w : World) (h : Blk w g c) (hb : w.cell? ⟨nb, 0, none⟩ = some (.int .i64 n)) (hc : SmallC c) (hn : SmallN n) (hng : nb ≠ g) : Calls Try.prog 28 #[.pointer (some ⟨g, 0, none⟩), .pointer (some ⟨nb, 0, none⟩)] w (ChgP 3 c n g w) := by
  have HG := hide h
  have HN := hide (show w.drew.cell? ⟨nb, 0, none⟩ = some (.int .i64 n) from hb)
  have HK : Hid (∀ u v, ((w.drew.setCell ⟨g, 3, none⟩ u).setCell ⟨g, 4, none⟩ v).cell? ⟨nb, 0, none⟩ = some (.int .i64 n)) := hide (fun u v => (set2_other hng u v).trans hb)
  have HSH := hide (shift_any g 3 4 c.he c.ou n w.drew (by simpa using h.cells.2.2.2.1) (by simpa using h.cells.2.2.2.2.1) h.froz (by decide) hc.2.1 hc.2.2.1 hn)
  have HB := hide (Below.refl g w)
  clear h hb hc hn hng
  by_cases hlt : c.he < n
  · have HS2 : Hid (Calls Try.prog 26 #[.pointer (some ⟨g, 3, none⟩), .pointer (some ⟨g, 4, none⟩), .int .i64 n] w.drew (fun e w' => e = .returned (.int .i64 13) ∧ w' = w.drew)) := hide (HSH.out.mono fun e w' h => by
      rcases h with h | h
      · exact h.2
      · exact absurd hlt h.1)
    have HL := hide hlt
    clear hlt
    go_enter Try.func28, Try.ntmps28
    go_wp2_with fail
    go_region_held (fun W : World => W.cell? ⟨nb, 0, none⟩ = some (.int .i64 n)) (first | exact HN.out) (first | (go_at_call 26; refine HS2.out.mono ?_; rintro e w' ⟨rfl, rfl⟩))
    go_wp2
    go_ret
    have hr : chgR 3 c n = (13, c) := if_pos HL.out
    exact ⟨by rw [hr]; rfl, by rw [hr]; exact HG.out, HB.out.drew⟩
  · have HS2 : Hid (Calls Try.prog 26 #[.pointer (some ⟨g, 3, none⟩), .pointer (some ⟨g, 4, none⟩), .int .i64 n] w.drew (fun e w' => e = .returned (.int .i64 0) ∧ w' = (w.drew.setCell ⟨g, 3, none⟩ (.int .i64 (c.he - n))).setCell ⟨g, 4, none⟩ (.int .i64 (c.ou + n)))) := hide (HSH.out.mono fun e w' h => by
      rcases h with h | h
      · exact absurd h.1 hlt
      · exact h.2)
    have HL := hide (show chgR 3 c n = (0, { c with he := c.he - n, ou := c.ou + n }) from if_neg hlt)
    clear hlt
    go_enter Try.func28, Try.ntmps28
    go_wp2_with fail
    go_region_held (fun W : World => W.cell? ⟨nb, 0, none⟩ = some (.int .i64 n)) (first | exact HN.out | exact HK.out _ _) (first | (go_at_call 26; refine HS2.out.mono ?_; rintro e w' ⟨rfl, rfl⟩))
    go_wp2
    go_ret
    exact ⟨by rw [HL.out]; rfl, by rw [HL.out]; exact set2_blk HG.out rfl, set2_below HB.out.drew (Nat.le_refl _) _ _⟩
theorem clo4_any (g nb : Nat) (c : Cl) (n : Int) (w : World) (h : Blk w g c) (hb : w.cell? ⟨nb, 0, none⟩ = some (.int .i64 n)) (hc : SmallC c) (hn : SmallN n) (hng : nb ≠ g) : Calls Try.prog 29 #[.pointer (some ⟨g, 0, none⟩), .pointer (some ⟨nb, 0, none⟩)] w (ChgP 4 c n g w) := by
  have HG := hide h
  have HN := hide (show w.drew.cell? ⟨nb, 0, none⟩ = some (.int .i64 n) from hb)
  have HK : Hid (∀ u v, ((w.drew.setCell ⟨g, 4, none⟩ u).setCell ⟨g, 2, none⟩ v).cell? ⟨nb, 0, none⟩ = some (.int .i64 n)) := hide (fun u v => (set2_other hng u v).trans hb)
  have HSH := hide (shift_any g 4 2 c.ou c.fr n w.drew (by simpa using h.cells.2.2.2.2.1) (by simpa using h.cells.2.2.1) h.froz (by decide) hc.2.2.1 hc.1 hn)
  have HB := hide (Below.refl g w)
  clear h hb hc hn hng
  by_cases hlt : c.ou < n
  · have HS2 : Hid (Calls Try.prog 26 #[.pointer (some ⟨g, 4, none⟩), .pointer (some ⟨g, 2, none⟩), .int .i64 n] w.drew (fun e w' => e = .returned (.int .i64 13) ∧ w' = w.drew)) := hide (HSH.out.mono fun e w' h => by
      rcases h with h | h
      · exact h.2
      · exact absurd hlt h.1)
    have HL := hide hlt
    clear hlt
    go_enter Try.func29, Try.ntmps29
    go_wp2_with fail
    go_region_held (fun W : World => W.cell? ⟨nb, 0, none⟩ = some (.int .i64 n)) (first | exact HN.out) (first | (go_at_call 26; refine HS2.out.mono ?_; rintro e w' ⟨rfl, rfl⟩))
    go_wp2
    go_ret
    have hr : chgR 4 c n = (13, c) := if_pos HL.out
    exact ⟨by rw [hr]; rfl, by rw [hr]; exact HG.out, HB.out.drew⟩
  · have HS2 : Hid (Calls Try.prog 26 #[.pointer (some ⟨g, 4, none⟩), .pointer (some ⟨g, 2, none⟩), .int .i64 n] w.drew (fun e w' => e = .returned (.int .i64 0) ∧ w' = (w.drew.setCell ⟨g, 4, none⟩ (.int .i64 (c.ou - n))).setCell ⟨g, 2, none⟩ (.int .i64 (c.fr + n)))) := hide (HSH.out.mono fun e w' h => by
      rcases h with h | h
      · exact absurd h.1 hlt
      · exact h.2)
    have HL := hide (show chgR 4 c n = (0, { c with ou := c.ou - n, fr := c.fr + n }) from if_neg hlt)
    clear hlt
    go_enter Try.func29, Try.ntmps29
    go_wp2_with fail
    go_region_held (fun W : World => W.cell? ⟨nb, 0, none⟩ = some (.int .i64 n)) (first | exact HN.out | exact HK.out _ _) (first | (go_at_call 26; refine HS2.out.mono ?_; rintro e w' ⟨rfl, rfl⟩))
    go_wp2
    go_ret
    exact ⟨by rw [HL.out]; rfl, by rw [HL.out]; exact set2_blk HG.out rfl, set2_below HB.out.drew (Nat.le_refl _) _ _⟩
theorem clo0_any (g nb : Nat) (c : Cl) (n : Int) (w : World) (h : Blk w g c) (hb : w.cell? ⟨nb, 0, none⟩ = some (.int .i64 n)) (hc : SmallC c) (hn : SmallN n) (hng : nb ≠ g) : Calls Try.prog 24 #[.pointer (some ⟨g, 0, none⟩), .pointer (some ⟨nb, 0, none⟩)] w (ChgP 0 c n g w) := by
  have HG := hide h
  have HN := hide hb
  have HNG := hide hng
  have HB := hide (Below.refl g w)
  have HSa : Hid (w.drew.cell? ⟨nb, 0, none⟩ = some (.int .i64 n) ∧ w.drew.cell? ⟨g, 5, none⟩ = some (.int .i64 c.al)) := hide ⟨hb, by simpa using h.cells.2.2.2.2.2⟩
  have hw1 : IntKind.i64.wrap (c.al + n) = c.al + n := wrap64 (by unfold SmallC SmallN at *; omega) (by unfold SmallC SmallN at *; omega)
  have hw2 : IntKind.i64.wrap (c.fr + n) = c.fr + n := wrap64 (by unfold SmallC SmallN at *; omega) (by unfold SmallC SmallN at *; omega)
  clear h hb hc hn hng
  by_cases hlt : 1125899906842624 < c.al + n
  · have HL := hide (show chgR 0 c n = (5, c) from if_pos hlt)
    go_enter Try.func24, Try.ntmps24
    go_wp2_with fail
    go_region_held (fun W : World => W.cell? ⟨nb, 0, none⟩ = some (.int .i64 n) ∧ W.cell? ⟨g, 5, none⟩ = some (.int .i64 c.al)) (first | exact HSa.out) (fail)
    go_wp2
    go_ret
    exact ⟨by rw [HL.out]; rfl, by rw [HL.out]; exact HG.out, HB.out.drew⟩
  · have HL := hide (show chgR 0 c n = (0, { c with fr := c.fr + n, al := c.al + n }) from if_neg hlt)
    go_enter Try.func24, Try.ntmps24
    go_wp2_with fail
    go_region_held (fun W : World => W.cell? ⟨nb, 0, none⟩ = some (.int .i64 n) ∧ W.cell? ⟨g, 5, none⟩ = some (.int .i64 c.al)) (first | exact HSa.out) (fail)
    generalize hW1 : w.drew = W1
    have HB1 : Hid (Below g w W1) := hide (hW1 ▸ HB.out.drew)
    have HG1 : Hid (Blk W1 g c) := hide (hW1 ▸ HG.out)
    have HN1 : Hid (W1.cell? ⟨nb, 0, none⟩ = some (.int .i64 n)) := hide (hW1 ▸ HN.out)
    clear hW1 HSa HG HN HB
    have HSb : Hid (W1.drew.cell? ⟨nb, 0, none⟩ = some (.int .i64 n) ∧ W1.drew.cell? ⟨g, 2, none⟩ = some (.int .i64 c.fr)) := hide ⟨HN1.out, by simpa using HG1.out.cells.2.2.1⟩
    have fz : W1.drew.frozen? ⟨g, 2, none⟩ = false := HG1.out.froz 2
    have cz : W1.drew.cell? ⟨g, 2, none⟩ = some (.int .i64 c.fr) := HSb.out.2
    go_wp2_with fail
    refine wp_region_last 8 (fun W : World => W.cell? ⟨nb, 0, none⟩ = some (.int .i64 n) ∧ W.cell? ⟨g, 2, none⟩ = some (.int .i64 c.fr)) (by kernel_rfl) HSb.out (fun hHeld => ?_)
    refine wpAnyL_take (i := 0) (v := ?v0b) rfl (by kernel_rfl) (fun _ _ _ h => h) (by assumption) (by rfl) ?hy0b ?hn0b
    case hy0b => (intro w hSw; (try dsimp only at hSw); obtain ⟨s0, s1⟩ := hSw; go_simp; try with_reducible rfl)
    try simp only [Act.put]
    refine wpAnyL_take (i := 1) (v := ?v1b) rfl (by kernel_rfl) (fun _ _ _ h => h) (by assumption) (by rfl) ?hy1b ?hn1b
    case hy1b => (intro w hSw; (try dsimp only at hSw); obtain ⟨s0, s1⟩ := hSw; go_simp; try with_reducible rfl)
    try simp only [Act.put]
    refine wpAnyL_take (i := 2) (v := ?v2b) rfl (by kernel_rfl) (fun _ _ _ h => h) (by assumption) (by rfl) ?hy2b ?hn2b
    case hy2b => (intro w hSw; (try dsimp only at hSw); obtain ⟨s0, s1⟩ := hSw; go_simp; try with_reducible rfl)
    try simp only [Act.put]
    refine wpAnyL_take (i := 3) (v := ?v3b) rfl (by kernel_rfl) (fun _ _ _ h => h) (by assumption) (by rfl) ?hy3b ?hn3b
    case hy3b => (intro w hSw; (try dsimp only at hSw); obtain ⟨s0, s1⟩ := hSw; go_simp; try with_reducible rfl)
    try simp only [Act.put]
    refine wpAnyL_take (i := 4) (v := ?v4b) rfl (by kernel_rfl) (fun _ _ _ h => h) (by assumption) (by rfl) ?hy4b ?hn4b
    case hy4b => (intro w hSw; (try dsimp only at hSw); obtain ⟨s0, s1⟩ := hSw; go_simp; try with_reducible rfl)
    try simp only [Act.put]
    refine wpAnyL_take (i := 5) (v := ?v5b) rfl (by kernel_rfl) (fun _ _ _ h => h) (by assumption) (by rfl) ?hy5b ?hn5b
    case hy5b => (intro w hSw; (try dsimp only at hSw); obtain ⟨s0, s1⟩ := hSw; go_simp; try with_reducible rfl)
    try simp only [Act.put]
    refine wpAnyL_take (i := 6) (v := ?v6b) rfl (by kernel_rfl) (fun _ _ _ h => h) (by assumption) (by rfl) ?hy6b ?hn6b
    case hy6b => (intro w hSw; (try dsimp only at hSw); obtain ⟨s0, s1⟩ := hSw; go_simp; try with_reducible rfl)
    try simp only [Act.put]
    refine wpAnyL_take (i := 7) (v := ?v7b) rfl (by kernel_rfl) (fun _ _ _ h => h) (by assumption) (by rfl) ?hy7b ?hn7b
    case hy7b => (intro w hSw; (try dsimp only at hSw); obtain ⟨s0, s1⟩ := hSw; go_simp; try with_reducible rfl)
    try simp only [Act.put]
    refine wpAnyL_last rfl (by kernel_rfl) (by kernel_rfl) (fun K hK => ?_)
    go_simp
    refine hK.out _ _ ?_
    clear hK K hHeld
    generalize hW2 : (W1.setCell ⟨g, 2, none⟩ (.int .i64 (c.fr + n))).drew = W2
    have HB2 : Hid (Below g w W2) := hide (hW2 ▸ (HB1.out.setCell (Nat.le_refl _) _).drew)
    have HG2 : Hid (Blk W2 g { c with fr := c.fr + n }) := hide (hW2 ▸ (blk_set HG1.out _).trans rfl)
    have HN2 : Hid (W2.cell? ⟨nb, 0, none⟩ = some (.int .i64 n)) := hide (hW2 ▸ (World.cell?_of_block (Below.heap_setCell _ _ _ _ HNG.out)).trans HN1.out)
    clear hW2 fz cz HSb HG1 HN1 HB1
    have HSc : Hid (W2.drew.cell? ⟨nb, 0, none⟩ = some (.int .i64 n) ∧ W2.drew.cell? ⟨g, 5, none⟩ = some (.int .i64 c.al)) := hide ⟨HN2.out, by simpa using HG2.out.cells.2.2.2.2.2⟩
    have fz : W2.drew.frozen? ⟨g, 5, none⟩ = false := HG2.out.froz 5
    have cz : W2.drew.cell? ⟨g, 5, none⟩ = some (.int .i64 c.al) := HSc.out.2
    go_wp2_with fail
    refine wp_region_last 8 (fun W : World => W.cell? ⟨nb, 0, none⟩ = some (.int .i64 n) ∧ W.cell? ⟨g, 5, none⟩ = some (.int .i64 c.al)) (by kernel_rfl) HSc.out (fun hHeld => ?_)
    refine wpAnyL_take (i := 0) (v := ?v0c) rfl (by kernel_rfl) (fun _ _ _ h => h) (by assumption) (by rfl) ?hy0c ?hn0c
    case hy0c => (intro w hSw; (try dsimp only at hSw); obtain ⟨s0, s1⟩ := hSw; go_simp; try with_reducible rfl)
    try simp only [Act.put]
    refine wpAnyL_take (i := 1) (v := ?v1c) rfl (by kernel_rfl) (fun _ _ _ h => h) (by assumption) (by rfl) ?hy1c ?hn1c
    case hy1c => (intro w hSw; (try dsimp only at hSw); obtain ⟨s0, s1⟩ := hSw; go_simp; try with_reducible rfl)
    try simp only [Act.put]
    refine wpAnyL_take (i := 2) (v := ?v2c) rfl (by kernel_rfl) (fun _ _ _ h => h) (by assumption) (by rfl) ?hy2c ?hn2c
    case hy2c => (intro w hSw; (try dsimp only at hSw); obtain ⟨s0, s1⟩ := hSw; go_simp; try with_reducible rfl)
    try simp only [Act.put]
    refine wpAnyL_take (i := 3) (v := ?v3c) rfl (by kernel_rfl) (fun _ _ _ h => h) (by assumption) (by rfl) ?hy3c ?hn3c
    case hy3c => (intro w hSw; (try dsimp only at hSw); obtain ⟨s0, s1⟩ := hSw; go_simp; try with_reducible rfl)
    try simp only [Act.put]
    refine wpAnyL_take (i := 4) (v := ?v4c) rfl (by kernel_rfl) (fun _ _ _ h => h) (by assumption) (by rfl) ?hy4c ?hn4c
    case hy4c => (intro w hSw; (try dsimp only at hSw); obtain ⟨s0, s1⟩ := hSw; go_simp; try with_reducible rfl)
    try simp only [Act.put]
    refine wpAnyL_take (i := 5) (v := ?v5c) rfl (by kernel_rfl) (fun _ _ _ h => h) (by assumption) (by rfl) ?hy5c ?hn5c
    case hy5c => (intro w hSw; (try dsimp only at hSw); obtain ⟨s0, s1⟩ := hSw; go_simp; try with_reducible rfl)
    try simp only [Act.put]
    refine wpAnyL_take (i := 6) (v := ?v6c) rfl (by kernel_rfl) (fun _ _ _ h => h) (by assumption) (by rfl) ?hy6c ?hn6c
    case hy6c => (intro w hSw; (try dsimp only at hSw); obtain ⟨s0, s1⟩ := hSw; go_simp; try with_reducible rfl)
    try simp only [Act.put]
    refine wpAnyL_take (i := 7) (v := ?v7c) rfl (by kernel_rfl) (fun _ _ _ h => h) (by assumption) (by rfl) ?hy7c ?hn7c
    case hy7c => (intro w hSw; (try dsimp only at hSw); obtain ⟨s0, s1⟩ := hSw; go_simp; try with_reducible rfl)
    try simp only [Act.put]
    refine wpAnyL_last rfl (by kernel_rfl) (by kernel_rfl) (fun K hK => ?_)
    go_simp
    refine hK.out _ _ ?_
    clear hK K hHeld
    go_wp2
    go_ret
    exact ⟨by rw [HL.out]; rfl, by rw [HL.out]; exact (blk_set HG2.out _).trans rfl, (HB2.out.setCell (Nat.le_refl _) _).drew⟩
end Go.Proofs.Ytjochdmhhhhgiaa

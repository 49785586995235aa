/- the order of cells, places, sums -/
import Derived.Test.YtffhkljegopjmaaDoorKA
namespace Go.Proofs.YtffhkljegopjmaaDoor
open Go.RowKit
set_option maxRecDepth 40000
theorem ret_int {x y : Int} (h : x = y) : Ending.returned (.int .i64 x) = .returned (.int .i64 y) := by rw [h]
theorem ret_bool {x y : Bool} (h : x = y) : Ending.returned (.bool x) = .returned (.bool y) := by rw [h]
def cmpI (a b : Int) : Int := if a < b then -1 else if b < a then 1 else 0
theorem nan_any (a : Int) (w : World) : Calls Tryd.prog 55 #[.int .i64 a] w fun e w' => e = .returned (.bool false) ∧ w' = w := by
  go_enter Tryd.func55, Tryd.ntmps55
  go_wp2
  go_ret
  exact ⟨rfl, rfl⟩
theorem cmp_any (a b : Int) (w : World) : Calls Tryd.prog 41 #[.int .i64 a, .int .i64 b] w fun e w' => e = .returned (.int .i64 (cmpI a b)) ∧ w' = w := by
  have HT : Hid (cmpI a b = if a < b then -1 else if b < a then 1 else 0) := hide rfl
  generalize cmpI a b = r at *
  have h1 := fun W => nan_any a W
  have h2 := fun W => nan_any b W
  rcases Int.lt_trichotomy a b with h | h | h
  · go_enter Tryd.func41, Tryd.ntmps41
    go_wp2_with (first | (go_at_call 55; refine (nan_any _ _).mono ?_; rintro e w' ⟨rfl, rfl⟩))
    all_goals go_ret
    all_goals exact ⟨ret_int (by rw [HT.out, if_pos h]), rfl⟩
  · subst h
    go_enter Tryd.func41, Tryd.ntmps41
    go_wp2_with (first | (go_at_call 55; refine (nan_any _ _).mono ?_; rintro e w' ⟨rfl, rfl⟩))
    all_goals go_ret
    all_goals exact ⟨ret_int (by rw [HT.out]; simp), rfl⟩
  · go_enter Tryd.func41, Tryd.ntmps41
    go_wp2_with (first | (go_at_call 55; refine (nan_any _ _).mono ?_; rintro e w' ⟨rfl, rfl⟩))
    all_goals go_ret
    all_goals exact ⟨ret_int (by rw [HT.out, if_neg (by omega), if_pos h]), rfl⟩
theorem or_any (x y : Int) (b : Nat) (w : World) (h0 : w.cell? ⟨b, 0, none⟩ = some (.int .i64 x)) (h1 : w.cell? ⟨b, 1, none⟩ = some (.int .i64 y)) : Calls Tryd.prog 40 #[.slice (some ⟨b, 0, none⟩) 2 2] w fun e w' => e = .returned (.int .i64 (if x = 0 then y else x)) ∧ w' = w := by
  have H0 := hide h0
  have H1 := hide h1
  have HT : Hid (∀ r : Int, r = (if x = 0 then y else x) → r = (if x = 0 then y else x)) := hide (fun r h => h)
  generalize hr : (if x = 0 then y else x) = r at *
  have HR := hide hr
  clear HT hr h0 h1
  go_enter Tryd.func40, Tryd.ntmps40
  go_wp2
  go_loopw [8] (fun i wr => ∃ k : Nat, k ≤ 2 ∧ i = .int .i64 k ∧ Hid (0 < k → x = 0) ∧ Hid (1 < k → y = 0) ∧ wr = w) (fun i _ => 2 - (intOf i).toNat)
  case atStart => exact ⟨0, by omega, rfl, hide (fun h => by omega), hide (fun h => by omega), rfl⟩
  case round =>
    obtain ⟨k, hk, rfl, HA, HB, rfl⟩ := hrel
    rcases (by omega : k = 0 ∨ k = 1 ∨ k = 2) with rfl | rfl | rfl
    · have h0 := H0.out
      by_cases hx : x = 0
      · subst hx
        go_wp2
        go_roundw
        case rel => exact ⟨1, by omega, by simp, hide (by simp), hide (fun h => by omega), by trivial⟩
        case measure => simp [intOf]
      · go_wp2
        go_ret
        exact ⟨ret_int (by rw [← HR.out, if_neg hx]), rfl⟩
    · have h1 := H1.out
      have hx := hide (HA.out (by omega))
      by_cases hy : y = 0
      · subst hy
        go_wp2
        go_roundw
        case rel => exact ⟨2, by omega, by simp, hide (fun _ => hx.out), hide (by simp), by trivial⟩
        case measure => simp [intOf]
      · go_wp2
        go_ret
        exact ⟨ret_int (by rw [← HR.out, if_pos hx.out]), rfl⟩
    · have hx := hide (HA.out (by omega))
      have hy := hide (HB.out (by omega))
      go_wp2
      go_ret
      exact ⟨ret_int (by rw [← HR.out, if_pos hx.out, hy.out]), rfl⟩
/-- how two cells stand -/
def ordC (a b : Cl) : Int := if cmpI a.it b.it = 0 then cmpI a.wa b.wa else cmpI a.it b.it
theorem ord_any (a b : Cl) (w : World) : Calls Tryd.prog 18 #[vc a, vc b] w fun e w' => e = .returned (.int .i64 (ordC a b)) ∧ Below w.heap.size w w' := by
  have HT : Hid (ordC a b = if cmpI a.it b.it = 0 then cmpI a.wa b.wa else cmpI a.it b.it) := hide rfl
  generalize ordC a b = r at *
  obtain ⟨a1, a2, a3, a4, a5, a6⟩ := a
  obtain ⟨b1, b2, b3, b4, b5, b6⟩ := b
  simp only at HT
  have CM := hide (fun x y W => cmp_any x y W)
  have OR : Hid (∀ (x y : Int) (b : Nat) (w : World), w.cell? ⟨b, 0, none⟩ = some (.int .i64 x) → w.cell? ⟨b, 1, none⟩ = some (.int .i64 y) → Calls Tryd.prog 40 #[.slice (some ⟨b, 0, none⟩) 2 2] w fun e w' => ∃ q : Int, e = .returned (.int .i64 q) ∧ Hid (q = if x = 0 then y else x) ∧ w' = w) := hide (fun x y b w h0 h1 => (or_any x y b w h0 h1).mono fun e w' h => ⟨_, h.1, hide rfl, h.2⟩)
  have hB0 : Below w.heap.size w ((w.alloc (.cells #[.int .i64 a1, .int .i64 a2, .int .i64 a3, .int .i64 a4, .int .i64 a5, .int .i64 a6] 43)).alloc (.cells #[.int .i64 b1, .int .i64 b2, .int .i64 b3, .int .i64 b4, .int .i64 b5, .int .i64 b6] 43)) := ((Below.refl _ w).alloc (Nat.le_refl _) _).alloc (by simp) _
  have HS : Hid (∀ w1, w1 = (w.alloc (.cells #[.int .i64 a1, .int .i64 a2, .int .i64 a3, .int .i64 a4, .int .i64 a5, .int .i64 a6] 43)).alloc (.cells #[.int .i64 b1, .int .i64 b2, .int .i64 b3, .int .i64 b4, .int .i64 b5, .int .i64 b6] 43) → Below w.heap.size w w1 ∧ w1.heap.size = w.heap.size + 2 ∧ (w1.cell? ⟨w.heap.size, 0, none⟩ = some (.int .i64 a1) ∧ w1.cell? ⟨w.heap.size, 1, none⟩ = some (.int .i64 a2) ∧ w1.cell? ⟨w.heap.size + 1, 0, none⟩ = some (.int .i64 b1) ∧ w1.cell? ⟨w.heap.size + 1, 1, none⟩ = some (.int .i64 b2))) := hide (by
    rintro w1 rfl
    refine ⟨hB0, by simp, ?_, ?_, ?_, ?_⟩
    · simp
    · simp
    · simp
    · simp)
  clear hB0
  generalize hc1 : cmpI a1 b1 = c1 at *
  generalize hc2 : cmpI a2 b2 = c2 at *
  have HC1 := hide hc1
  have HC2 := hide hc2
  clear hc1 hc2
  go_enter Tryd.func18, Tryd.ntmps18
  go_wp2_with fail
  generalize hw1 : (w.alloc (.cells #[.int .i64 a1, .int .i64 a2, .int .i64 a3, .int .i64 a4, .int .i64 a5, .int .i64 a6] 43)).alloc (.cells #[.int .i64 b1, .int .i64 b2, .int .i64 b3, .int .i64 b4, .int .i64 b5, .int .i64 b6] 43) = w1
  obtain ⟨hB, hsz, hs⟩ := HS.out w1 hw1.symm
  have HB := hide hB
  have HZ := hide hsz
  have HQ := hide hs
  have HK : Hid (∀ o, (w1.alloc o).drew.cell? ⟨w.heap.size, 0, none⟩ = some (.int .i64 a1) ∧ (w1.alloc o).drew.cell? ⟨w.heap.size, 1, none⟩ = some (.int .i64 a2) ∧ (w1.alloc o).drew.cell? ⟨w.heap.size + 1, 0, none⟩ = some (.int .i64 b1) ∧ (w1.alloc o).drew.cell? ⟨w.heap.size + 1, 1, none⟩ = some (.int .i64 b2)) := hide fun o => ⟨(World.cell?_alloc_past o _ _ (by omega)).trans hs.1, (World.cell?_alloc_past o _ _ (by omega)).trans hs.2.1, (World.cell?_alloc_past o _ _ (by omega)).trans hs.2.2.1, (World.cell?_alloc_past o _ _ (by omega)).trans hs.2.2.2⟩
  have HN : Hid (∀ x y : Int, (w1.alloc (.cells #[.int .i64 x, .int .i64 y] 3)).drew.cell? ⟨w1.heap.size, 0, none⟩ = some (.int .i64 x) ∧ (w1.alloc (.cells #[.int .i64 x, .int .i64 y] 3)).drew.cell? ⟨w1.heap.size, 1, none⟩ = some (.int .i64 y)) := hide fun x y => ⟨by simp, by simp⟩
  clear hB hsz hs hw1 HS
  go_region_held (fun W : World => W.cell? ⟨w.heap.size, 0, none⟩ = some (.int .i64 a1) ∧ W.cell? ⟨w.heap.size, 1, none⟩ = some (.int .i64 a2) ∧ W.cell? ⟨w.heap.size + 1, 0, none⟩ = some (.int .i64 b1) ∧ W.cell? ⟨w.heap.size + 1, 1, none⟩ = some (.int .i64 b2)) (first | exact HQ.out | exact HK.out _) (first | (go_at_call 41; refine (CM.out _ _ _).mono ?_; rintro e w' ⟨rfl, rfl⟩) | (go_at_call 40; refine (OR.out _ _ _ _ (HN.out _ _).1 (HN.out _ _).2).mono ?_; rintro e w' ⟨q, rfl, HQQ, rfl⟩))
  go_wp2
  go_ret
  refine ⟨ret_int (by rw [HT.out, HQQ.out, HC1.out, HC2.out]), ?_⟩
  exact (HB.out.alloc (by rw [HZ.out]; omega) _).drew
end Go.Proofs.YtffhkljegopjmaaDoor

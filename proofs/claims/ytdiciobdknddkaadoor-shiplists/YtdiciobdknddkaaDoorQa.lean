/- the document's Move, whole -/
import Derived.Test.YtdiciobdknddkaaDoorQ
namespace Go.Proofs.YtdiciobdknddkaaDoor
open Go.RowKit
set_option linter.unusedVariables false
/-- the document's Move, where it is refused: what its tests come to -/
theorem rmove_no (a : Option Addr) (len cap : Nat) (l : List Sh) (n m v er : Int) (w : World) (h : IsH w a len cap l)
    (hc : (¬ (Good 0 l ∧ orB n = true) ∧ er = 2) ∨ ((Good 0 l ∧ orB n = true) ∧ (mvB m = false ∨ 2 ≤ v) ∧ er = 15) ∨ ((Good 0 l ∧ orB n = true) ∧ (mvB m = true ∧ ¬ 2 ≤ v) ∧ mk (stL l n) m = 0 ∧ er = 9) ∨ ((Good 0 l ∧ orB n = true) ∧ (mvB m = true ∧ ¬ 2 ≤ v) ∧ ¬ mk (stL l n) m = 0 ∧ asB m = true ∧ v = 1 ∧ er = 10)) :
    Calls Tryd.prog 16 #[.slice a len cap, .int .i64 n, .int .u8 m, .int .u8 v] w fun e w' => e = .returned (.tuple #[.slice none 0 0, .int .i64 er]) ∧ Below w.heap.size w w' := by
  have HOF := hide (rof_any a len cap l n w h)
  have HK := hide (kn_any m)
  have HA := hide (ras_any m)
  have HMK := hide (rmk_any (stL l n) m)
  clear h
  rcases hc with ⟨hb, rfl⟩ | ⟨hg, hc, rfl⟩ | ⟨hg, ⟨hm, hv⟩, h0, rfl⟩ | ⟨hg, ⟨hm, hv⟩, h0, ha, hv1, rfl⟩
  · rw [ofR_bad hb] at HOF
    clear hb
    go_enter Tryd.func16, Tryd.ntmps16
    go_wp2_with fail
    refine HOF.out.mono ?_
    rintro e w1 ⟨rfl, HB1⟩
    go_wp2
    go_ret2
    exact ⟨rfl, HB1⟩
  · rw [ofR_good hg.1 hg.2] at HOF
    clear hg
    generalize stL l n = sn at *
    generalize mvB m = bm at *
    cases bm
    · clear hc
      go_enter Tryd.func16, Tryd.ntmps16
      go_wp2_with fail
      refine HOF.out.mono ?_
      rintro e w1 ⟨rfl, HB1⟩
      go_wp2_with (first | (go_at_call 24; refine (HK.out _).mono ?_; rintro e w' ⟨rfl, he'⟩; obtain rfl := he'.symm; clear he'))
      go_ret2
      exact ⟨rfl, HB1⟩
    · have hv : 2 ≤ v := by rcases hc with h | h; exact absurd h (by decide); exact h
      clear hc
      go_enter Tryd.func16, Tryd.ntmps16
      go_wp2_with fail
      refine HOF.out.mono ?_
      rintro e w1 ⟨rfl, HB1⟩
      go_wp2_with (first | (go_at_call 24; refine (HK.out _).mono ?_; rintro e w' ⟨rfl, he'⟩; obtain rfl := he'.symm; clear he'))
      go_ret2
      exact ⟨rfl, HB1⟩
  · rw [ofR_good hg.1 hg.2] at HOF
    rw [hm] at HK
    rw [h0] at HMK
    clear hg hm h0
    generalize stL l n = sn at *
    go_enter Tryd.func16, Tryd.ntmps16
    go_wp2_with fail
    refine HOF.out.mono ?_
    rintro e w1 ⟨rfl, HB1⟩
    go_wp2_with (first | (go_at_call 24; refine (HK.out _).mono ?_; rintro e w' ⟨rfl, he'⟩; obtain rfl := he'.symm; clear he') | (go_at_call 25; refine (HMK.out _).mono ?_; rintro e w' ⟨rfl, he'⟩; obtain rfl := he'.symm; clear he'))
    go_ret2
    exact ⟨rfl, HB1⟩
  · rw [ofR_good hg.1 hg.2] at HOF
    rw [hm] at HK
    rw [ha] at HA
    clear hg hm ha
    subst hv1
    generalize stL l n = sn at *
    generalize mk sn m = s' at *
    go_enter Tryd.func16, Tryd.ntmps16
    go_wp2_with fail
    refine HOF.out.mono ?_
    rintro e w1 ⟨rfl, HB1⟩
    go_wp2_with (first | (go_at_call 24; refine (HK.out _).mono ?_; rintro e w' ⟨rfl, he'⟩; obtain rfl := he'.symm; clear he') | (go_at_call 25; refine (HMK.out _).mono ?_; rintro e w' ⟨rfl, he'⟩; obtain rfl := he'.symm; clear he') | (go_at_call 12; refine (HA.out _).mono ?_; rintro e w' ⟨rfl, he'⟩; obtain rfl := he'.symm; clear he'))
    go_ret2
    exact ⟨rfl, HB1⟩
/-- the document's Move answers what the program's does -/
theorem rmove_any (a : Option Addr) (len cap : Nat) (l : List Sh) (n m v : Int) (w : World) (hT : Tab w) (h : IsH w a len cap l) : Calls Tryd.prog 16 #[.slice a len cap, .int .i64 n, .int .u8 m, .int .u8 v] w fun e w' => ∃ a' c', e = .returned (.tuple #[.slice a' (moveR l n m v).1.length c', .int .i64 (moveR l n m v).2]) ∧ Hid (IsH w' a' (moveR l n m v).1.length c' (moveR l n m v).1) ∧ Hid (Below w.heap.size w w' ∧ Tab w') := by
  have no : ∀ er, moveR l n m v = ([], er) → (Calls Tryd.prog 16 #[.slice a len cap, .int .i64 n, .int .u8 m, .int .u8 v] w fun e w' => e = .returned (.tuple #[.slice none 0 0, .int .i64 er]) ∧ Below w.heap.size w w') → Calls Tryd.prog 16 #[.slice a len cap, .int .i64 n, .int .u8 m, .int .u8 v] w fun e w' => ∃ a' c', e = .returned (.tuple #[.slice a' (moveR l n m v).1.length c', .int .i64 (moveR l n m v).2]) ∧ Hid (IsH w' a' (moveR l n m v).1.length c' (moveR l n m v).1) ∧ Hid (Below w.heap.size w w' ∧ Tab w') := by
    intro er e1 hc
    rw [e1]
    exact hc.mono fun e w' h' => ⟨none, 0, h'.1, isH_nil _, h'.2, hT.below' h'.2⟩
  have eq := moveR_L l n m v
  by_cases hg : Good 0 l ∧ orB n = true
  · rw [if_neg (by rw [goodL_iff]; exact fun h' => h' hg)] at eq
    by_cases hv : 2 ≤ v
    · rw [if_pos (by simp [veB]; omega)] at eq
      exact no _ eq (rmove_no a len cap l n m v 15 w h (.inr (.inl ⟨hg, .inr hv, rfl⟩)))
    · rw [if_neg (by simp [veB]; omega)] at eq
      cases hm : mvB m
      · have hx : nxR (stL l n) m = (0, 15) := by unfold nxR; rw [if_neg (by rw [hm]; simp)]
        rw [hx, if_pos (by decide)] at eq
        exact no _ eq (rmove_no a len cap l n m v 15 w h (.inr (.inl ⟨hg, .inl hm, rfl⟩)))
      · by_cases h0 : mk (stL l n) m = 0
        · have hx : nxR (stL l n) m = (0, 9) := by unfold nxR; rw [if_pos ⟨st_ok hg.1 n, hm⟩, if_pos h0]
          rw [hx, if_pos (by decide)] at eq
          exact no _ eq (rmove_no a len cap l n m v 9 w h (.inr (.inr (.inl ⟨hg, ⟨hm, hv⟩, h0, rfl⟩))))
        · have hx : nxR (stL l n) m = (mk (stL l n) m, 0) := by unfold nxR; rw [if_pos ⟨st_ok hg.1 n, hm⟩, if_neg h0]
          rw [hx, if_neg (by simp)] at eq
          by_cases ha : asB m = true ∧ v = 1
          · rw [if_pos ha] at eq
            exact no _ eq (rmove_no a len cap l n m v 10 w h (.inr (.inr (.inr ⟨hg, ⟨hm, hv⟩, h0, ha.1, ha.2, rfl⟩))))
          · rw [if_neg ha] at eq
            rw [eq]
            exact (rmove_done a len cap l n m v w h hg.1 hg.2 hm (by omega) h0 ha).mono fun e w' ⟨a', c', h1, h2, h3⟩ => ⟨a', c', h1, h2, h3, hT.below' h3⟩
  · rw [if_pos (by rw [goodL_iff]; exact hg)] at eq
    exact no _ eq (rmove_no a len cap l n m v 2 w h (.inl ⟨hg, rfl⟩))
end Go.Proofs.YtdiciobdknddkaaDoor

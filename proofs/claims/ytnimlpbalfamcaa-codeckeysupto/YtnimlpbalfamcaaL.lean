/- lives -/
import Derived.Test.YtnimlpbalfamcaaG
namespace Go.Proofs.Ytnimlpbalfamcaa
open Go.RowKit Cod
theorem num300 : num 300 = [172, 2] := by rw [num_great (by decide), num_small (by decide)]
theorem rd300 : rdNum [172, 2] = some (300, []) := by decide
theorem rd80 : rdNum [128, 0] = none := by decide
theorem num1 : num (zig (-1)) = [1] := by rw [show zig (-1) = 1 from rfl, num_small (by decide)]
theorem key_a : key [⟨2, 0, [97]⟩] = .ok [2, 97, 0, 1] := by rfl
theorem isB_own {w : World} {base : Nat} {v : Value} {n : Nat} {l : List Nat} (h : w.ownsRow base 5 1 v n (bv l)) (hl : ∀ x ∈ l, x < 256) :
    ∃ a cap, v = .slice a n cap ∧ IsB w a n cap l := owns_isB h hl
theorem isP_one (W : World) : IsP (W.alloc (.cells #[.int .u8 2, .int .u64 0, .string (str [97])] 60)) (some ⟨W.heap.size, 0, none⟩) 1 1 [⟨2, 0, [97]⟩] := by
  refine ⟨rfl, Nat.le_refl _, by unfold maxLen; decide, ?_, .inr ⟨_, 0, rfl, by simp, ?_⟩⟩
  · intro p hp; simp at hp; subst hp; exact ⟨by decide, by decide, by simp⟩
  · intro i p hi
    match i, hi with
    | 0, hi =>
      simp at hi; subst hi
      refine ⟨?_, ?_, ?_⟩ <;> (rw [World.cell?_alloc_new]; rfl)
    | i + 1, hi => simp at hi
set_option maxHeartbeats 1000000 in
theorem lives_any (w : World) : Calls Try.prog 12 #[] w fun e w' => e = .returned (.bool true) ∧ Below w.heap.size w w' := by
  go_enter Try.func12, Try.ntmps12
  go_wp2_with fail
  refine (num_any none 0 0 300 [] w (isB_nil w) (by decide) (by decide)).mono ?_
  rintro e w1 ⟨v1, rfl, hown1, hb1⟩
  rw [List.nil_append, num300] at hown1
  obtain ⟨a1, c1, rfl, hB1'⟩ := owns_isB hown1 (by decide)
  have hB1 : IsB w1 a1 2 c1 [172, 2] := hB1'
  clear hown1 hB1'
  go_wp2_with fail
  refine (readNum_any a1 2 c1 [172, 2] w1 hB1 (by decide)).mono ?_
  rintro e w2 ⟨(⟨n, p', q, hn, hn2, hp, rfl, hq, hrow⟩ | ⟨hn, rfl⟩), hb2⟩
  case inr => rw [rd300] at hn; cases hn
  rw [rd300] at hn
  simp only [Option.some.injEq, Prod.mk.injEq] at hn
  obtain ⟨rfl, hn3⟩ := hn
  obtain rfl : p' = 2 := by
    have h1 := congrArg List.length hn3
    simp at h1; omega
  have h2 : Below w.heap.size w w2 := hb1.trans (hb2.mono hb1.size)
  have H2 := hide h2
  clear hn2 hp hn3 hrow hB1 hb1 hb2 hq h2
  go_wp2_with fail
  refine (key_any (some ⟨w2.heap.size, 0, none⟩) 1 1 [⟨2, 0, [97]⟩] _ (isP_one w2) (by simp)).mono ?_
  rintro e w3 ⟨(⟨v3, _, rfl, hown3⟩ | ⟨k, hk, _⟩), hb3⟩
  case inr => rw [key_a] at hk; cases hk
  obtain ⟨a3, c3, rfl, hB3'⟩ := owns_isB hown3 (by decide)
  have hB3 : IsB w3 a3 4 c3 [2, 97, 0, 1] := hB3'
  have h3 : Below w.heap.size w w3 := (H2.out.alloc H2.out.size _).trans (hb3.mono (by simp; have := H2.out.size; omega))
  have H3 := hide h3
  have HB3 := hide hB3
  clear hown3 hB3' hB3 hb3 h3 H2
  rw [show (keyB [⟨2, 0, [97]⟩]).length = 4 from rfl]
  go_wp2_with fail
  refine (readNum_any (some ⟨w3.heap.size, 0, none⟩) 2 2 [128, 0] _ (isB_lit w3 [128, 0] (by decide) (by unfold maxLen; decide) (0, 0)) (by decide)).mono ?_
  rintro e w4 ⟨(⟨n, p', q4, hn, _⟩ | ⟨hn, rfl⟩), hb4⟩
  case inl => rw [rd80] at hn; cases hn
  have h4 : Below w3.heap.size w3 w4 := ((Below.refl _ w3).alloc (Nat.le_refl _) _).trans (hb4.mono (by simp))
  have hB4 := HB3.out.below h4
  have h4w : Below w.heap.size w w4 := H3.out.trans (h4.mono H3.out.size)
  have cv1 : (convert 22 9 (.slice a3 4 c3)).run Try.prog w4 = .ok (.string ⟨#[2, 97, 0, 1]⟩) w4 := conv_str hB4
  have H4 := hide h4w
  clear hn hb4 h4 hB4 h4w H3 HB3
  go_wp2_with fail
  refine (int_any none 0 0 (-1) [] w4 (isB_nil w4) (by decide) (by decide) (by decide)).mono ?_
  rintro e w5 ⟨v5, rfl, hown5, hb5⟩
  rw [List.nil_append, num1] at hown5
  obtain ⟨a5, c5, rfl, hB5'⟩ := owns_isB hown5 (by decide)
  have hB5 : IsB w5 a5 1 c5 [1] := hB5'
  have cv2 : (convert 22 9 (.slice a5 1 c5)).run Try.prog w5 = .ok (.string ⟨#[1]⟩) w5 := conv_str hB5
  have h5 : Below w.heap.size w w5 := H4.out.trans (hb5.mono H4.out.size)
  have H5 := hide h5
  clear cv1 hown5 hB5' hB5 hb5 h5 H4
  rw [show 0 + [1].length = 1 from rfl]
  go_wp2
  go_ret
  exact ⟨rfl, H5.out⟩
end Go.Proofs.Ytnimlpbalfamcaa

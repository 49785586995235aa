/- the walk of MoneyOrder -/
import Derived.Test.YtjhlilamnbbkbaaDoorWRing
namespace Go.Proofs.YtjhlilamnbbkbaaDoor
open Go.RowKit Go.Shelf Go.Sort Go.Lib
theorem nDigits_mono (b : Nat) : ∀ a, a ≤ b → nDigits a ≤ nDigits b := by
  induction b using Nat.strongRecOn with
  | _ b ih =>
    intro a hab
    by_cases ha : a < 10
    · rw [nDigits_small ha]; exact nDigits_pos b
    · rw [nDigits_big ha, nDigits_big (u := b) (by omega)]
      have := ih (b / 10) (by omega) (a / 10) (Nat.div_le_div_right hab)
      omega
theorem txt_mono (a b : Int) (h0 : 0 ≤ a) (h : a ≤ b) : (txt a).length ≤ (txt b).length := by
  unfold txt body
  rw [if_neg (by omega), if_neg (by omega)]
  simp only [List.length_append, decDigits_length, List.length_cons, List.length_nil]
  have := nDigits_mono (b.natAbs / 100) (a.natAbs / 100) (Nat.div_le_div_right (by omega))
  omega
set_option maxHeartbeats 1000000 in
/-- ladinglaw01.MoneyOrder -/
theorem order_any (a b c : Int) (w : World) (htab : POW w) (ha : In64 a) (hb : In64 b) (hc : In64 c) :
    Calls Tryd.prog 11 #[.int .i64 a, .int .i64 b, .int .i64 c] w fun e w' => e = .returned (.bool true) ∧ Below w.heap.size w w' := by
  have HT := hide htab
  clear htab
  have A1 := hide (fun W => add_any a c W ha hc)
  have A2 := hide (fun W => add_any b c W hb hc)
  have X1 := hide (fun W hW => text_any a ha W hW)
  have X2 := hide (fun W hW => text_any b hb W hW)
  have F3 := hide (txt_mono a b)
  have F : Hid ((err (a + c) = 5) ∨ (err (a + c) = 0 ∧ err (b + c) = 5) ∨ (err (a + c) = 0 ∧ err (b + c) = 0 ∧ (!(decide (num (a + c) < num (b + c)) == decide (a < b))) = false)) := hide (by
    rcases both (a + c) with ⟨h1, h2, h3⟩ | ⟨h1, h2, h3⟩
    · rcases both (b + c) with ⟨k1, k2, k3⟩ | ⟨k1, k2, k3⟩
      · rw [h2, h3, k2, k3]
        refine .inr (.inr ⟨rfl, rfl, ?_⟩)
        have : (a + c < b + c) = (a < b) := by rw [eq_iff_iff]; omega
        simp [this]
      · exact .inr (.inl ⟨h3, k3⟩)
    · exact .inl h3)
  clear ha hb hc
  generalize num (a + c) = y1 at *
  generalize err (a + c) = y2 at *
  generalize num (b + c) = y3 at *
  generalize err (b + c) = y4 at *
  have hs1 : (⟨(txt a).toArray⟩ : ByteArray).size = (txt a).length := by simp [ByteArray.size]
  have hs2 : (⟨(txt b).toArray⟩ : ByteArray).size = (txt b).length := by simp [ByteArray.size]
  generalize txt a = T1 at *
  generalize txt b = T2 at *
  go_enter Tryd.func11, Tryd.ntmps11
  go_wp2_with fail
  refine (lives_any _ HT.out).mono ?_
  rintro e w1 ⟨rfl, h1⟩
  go_wp2_with fail
  refine (A1.out _).mono ?_
  rintro e w2 ⟨rfl, h2⟩
  replace h1 := h1.trans (h2.mono h1.size)
  clear h2
  go_wp2_with fail
  refine (A2.out _).mono ?_
  rintro e w3 ⟨rfl, h2⟩
  replace h1 := h1.trans (h2.mono h1.size)
  clear h2
  by_cases c1 : a < 0
  · rcases F.out with rfl | ⟨rfl, rfl⟩ | ⟨rfl, rfl, hx⟩
    all_goals go_wp2
    all_goals go_ret
    all_goals exact ⟨rfl, h1⟩
  · by_cases c2 : b < 0
    · rcases F.out with rfl | ⟨rfl, rfl⟩ | ⟨rfl, rfl, hx⟩
      all_goals go_wp2
      all_goals go_ret
      all_goals exact ⟨rfl, h1⟩
    · by_cases c3 : b < a
      · rcases F.out with rfl | ⟨rfl, rfl⟩ | ⟨rfl, rfl, hx⟩
        all_goals go_wp2
        all_goals go_ret
        all_goals exact ⟨rfl, h1⟩
      · have hle : (T1.length : Int) ≤ T2.length := by have := F3.out (by omega) (by omega); omega
        rcases F.out with rfl | ⟨rfl, rfl⟩ | ⟨rfl, rfl, hx⟩
        all_goals go_wp2_with fail
        all_goals refine (X1.out _ (POW.below HT.out h1)).mono ?_
        all_goals rintro e w4 ⟨rfl, h2⟩
        all_goals replace h1 := h1.trans (h2.mono h1.size)
        all_goals clear h2
        all_goals go_wp2_with fail
        all_goals refine (X2.out _ (POW.below HT.out h1)).mono ?_
        all_goals rintro e w5 ⟨rfl, h2⟩
        all_goals replace h1 := h1.trans (h2.mono h1.size)
        all_goals clear h2
        all_goals go_wp2
        all_goals go_ret
        all_goals exact ⟨rfl, h1⟩
end Go.Proofs.YtjhlilamnbbkbaaDoor

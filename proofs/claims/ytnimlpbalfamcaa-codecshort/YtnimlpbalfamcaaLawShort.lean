/- the walk of CodecShort -/
import Derived.Test.YtnimlpbalfamcaaL
namespace Go.Proofs.Ytnimlpbalfamcaa
open Go.RowKit Cod
set_option maxHeartbeats 1000000 in
theorem short_any (n : Nat) (hn : n < 18446744073709551616) (s : ByteArray) (hs : s.size ≤ 140737488351232) (w : World) : Calls Try.prog 11 #[.int .u64 n, .string s] w fun e w' => e = .returned (.bool true) ∧ Below w.heap.size w w' := by
  have hl1 := num_len10 hn
  have hl2 := num_len10 (n := s.size) (by omega)
  go_enter Try.func11, Try.ntmps11
  go_wp2_with fail
  go_loop [5, 6] (fun x i => ∃ k m : Nat, i = .int .u64 m ∧ x = .int .i64 k ∧ m < 18446744073709551616 ∧ k ≤ 10 ∧ Hid (k + (num m).length = (num n).length + 1)) (fun _ i => (intOf i).toNat)
  case atStart => exact ⟨1, n, rfl, rfl, hn, by decide, hide (by omega)⟩
  case round =>
    obtain ⟨k, m, rfl, rfl, hm, hk, HK⟩ := hrel
    by_cases hlt : 127 < m
    · have HM : Hid ((num m).length = (num (m / 128)).length + 1) := hide (by rw [num_great (by omega)]; rfl)
      have d1 : decide ((127 : Int) < (m : Int)) = true := by simp; omega
      have hk9 : k < 10 := by
        have h1 := HK.out; have h2 := HM.out
        have : 1 ≤ (num (m / 128)).length := by
          have := num_ne (m / 128)
          cases h : num (m / 128) with
          | nil => exact absurd h this
          | cons _ _ => simp
        omega
      go_wp2
      go_round
      case rel => exact ⟨k + 1, m / 128, by go_num, by go_num, by omega, by omega, hide (by have := HK.out; have := HM.out; omega)⟩
      case measure => simp [intOf]; omega
    · have HM : Hid ((num m).length = 1) := hide (by rw [num_small (by omega)]; rfl)
      have d1 : decide ((127 : Int) < (m : Int)) = false := by simp; omega
      obtain rfl : k = (num n).length := by have := HK.out; have := HM.out; omega
      go_wp2_with fail
      refine (num_any none 0 0 s.size [] w (isB_nil w) (by decide) (by omega)).mono ?_
      rintro e w1 ⟨v1, rfl, hown1, hb1⟩
      obtain ⟨a1, c1, rfl, _⟩ := owns_isB hown1 (by simpa using num_lt s.size)
      clear hown1 HK HM
      rw [Nat.zero_add]
      go_wp2_with fail
      refine (lives_any w1).mono ?_
      rintro e w2 ⟨rfl, hb2⟩
      have h2 := hb1.trans (hb2.mono hb1.size)
      clear hb1 hb2
      go_wp2_with fail
      refine (num_any none 0 0 n [] w2 (isB_nil w2) (by decide) hn).mono ?_
      rintro e w3 ⟨v3, rfl, hown3, hb3⟩
      obtain ⟨a3, c3, rfl, _⟩ := owns_isB hown3 (by simpa using num_lt n)
      have h3 := h2.trans (hb3.mono h2.size)
      clear hown3 h2 hb3
      rw [Nat.zero_add]
      have d2 : (((num n).length : Int) == ((num n).length : Int)) = true := by simp
      go_wp2_with fail
      refine (text_any none 0 0 s [] w3 (isB_nil w3) (by omega)).mono ?_
      rintro e w4 ⟨v4, rfl, hown4, hb4⟩
      obtain ⟨a4, c4, rfl, _⟩ := owns_isB hown4 (by
        intro x hx
        simp only [List.nil_append, List.mem_append] at hx
        rcases hx with hx | hx
        · exact num_lt _ x hx
        · exact bl_lt s x hx)
      have h4 := h3.trans (hb4.mono h3.size)
      clear hown4 h3 hb4
      rw [Nat.zero_add]
      generalize (num s.size).length = q at *
      have d3 : (((q + s.size : Nat) : Int) == (q : Int) + (s.size : Int)) = true := by simp
      have d4 : ((q : Int) + (s.size : Int) == (q : Int) + (s.size : Int)) = true := by simp
      go_wp2
      go_ret
      exact ⟨rfl, h4⟩
theorem codecShort.lawWalk (n : Int) (s : ByteArray) (w : World) (wn : (Lit.int .u64 n).wf = true) (hs : s.size ≤ 140737488351232) : Calls Try.prog 11 #[.int .u64 n, .string s] w fun e w' => e = .returned (.bool true) ∧ Below w.heap.size w w' := by
  obtain ⟨h0, h1⟩ := bounds_u64 wn
  obtain ⟨n, rfl⟩ := Int.eq_ofNat_of_zero_le h0
  exact short_any n (by omega) s hs w
end Go.Proofs.Ytnimlpbalfamcaa

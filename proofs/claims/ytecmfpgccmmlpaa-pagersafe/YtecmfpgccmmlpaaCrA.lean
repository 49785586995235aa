/- contracts of small functions -/
import Derived.Test.YtecmfpgccmmlpaaK
import Derived.Test.YtecmfpgccmmlpaaCrMath
import Derived.WalkKit
import Derived.WalkSpells
import Derived.WalkLawsBesides
import Derived.Outline
namespace Go.Proofs.Ytecmfpgccmmlpaa
open Go.RowKit
set_option maxRecDepth 40000
theorem ret_u32 {a b : Int} (h : a = b) : Ending.returned (.int .u32 a) = .returned (.int .u32 b) := by rw [h]
theorem and_one (c : Nat) (hc : c < 4294967296) : bits .and .u32 (c : Int) 1 = ((c % 2 : Nat) : Int) := by
  have h := u32_and_nat c 1 hc (by decide)
  rw [Nat.and_one_is_mod] at h
  exact h
theorem xor_P (c : Nat) (hc : c < 4294967296) : bits .xor .u32 ((c : Int) / 2) 3988292384 = ((c / 2 ^^^ 3988292384 : Nat) : Int) := by
  have h := u32_xor_nat (c / 2) 3988292384 (by omega) (by decide)
  rw [← h]; rfl
theorem sh_odd (c : Nat) (h : c % 2 = 1) : Crc.sh c = c / 2 ^^^ 3988292384 := by unfold Crc.sh Crc.P; rw [h]
theorem sh_ev (c : Nat) (h : c % 2 = 0) : Crc.sh c = c / 2 := by unfold Crc.sh; rw [h]; simp
theorem shift_any (c : Nat) (hc : c < 4294967296) (w : World) :
    Calls Try.prog 80 #[.int .u32 c] w fun e w' => e = .returned (.int .u32 (Crc.sh c : Nat)) ∧ w' = w := by
  have ha := and_one c hc
  by_cases h : c % 2 = 1
  · have hb : (bits .and .u32 (c : Int) 1 == 1) = true := by rw [ha, h]; rfl
    have hx := xor_P c hc
    have hs : Hid (Crc.sh c = c / 2 ^^^ 3988292384) := hide (sh_odd c h)
    clear ha h
    go_enter Try.func80, Try.ntmps80
    go_wp2
    go_ret
    exact ⟨ret_u32 (by rw [hs.out]), rfl⟩
  · have h0 : c % 2 = 0 := by omega
    have hb : (bits .and .u32 (c : Int) 1 == 1) = false := by rw [ha, h0]; rfl
    have hs : Hid (Crc.sh c = c / 2) := hide (sh_ev c h0)
    clear ha h h0
    go_enter Try.func80, Try.ntmps80
    go_wp2
    go_ret
    exact ⟨ret_u32 (by rw [hs.out]; rfl), rfl⟩
/-- ladingref02.bits -/
theorem bits_any (c : Nat) (hc : c < 4294967296) (w : World) :
    Calls Try.prog 76 #[.int .u32 c] w fun e w' => e = .returned (.int .u32 (Crc.shN 8 c : Nat)) ∧ w' = w := by
  go_enter Try.func76, Try.ntmps76
  go_wp2
  go_loop [0, 3] (fun x i => ∃ k : Nat, k ≤ 8 ∧ i = .int .i64 k ∧ x = .int .u32 (Crc.shN k c : Nat)) (fun _ i => 8 - (intOf i).toNat)
  case atStart => exact ⟨0, by omega, rfl, rfl⟩
  case round =>
    obtain ⟨k, hk, rfl, rfl⟩ := hrel
    by_cases hlt : k < 8
    · have hd := Crc.shN_lt k c hc
      have hsn : Hid (Crc.shN (k + 1) c = Crc.sh (Crc.shN k c)) := hide (Crc.shN_succ k c)
      generalize hg : Crc.shN k c = d at *
      have Hg := hide hg
      clear hg
      by_cases h : d % 2 = 1
      · have hb : ((d : Int) % 2 == 1) = true := by simp; omega
        have hx := xor_P d hd
        have hs : Hid (Crc.sh d = d / 2 ^^^ 3988292384) := hide (sh_odd d h)
        clear h
        go_wp2
        go_round
        case rel => exact ⟨k + 1, by omega, by go_num, by rw [hsn.out, hs.out]⟩
        case measure => simp [intOf]; omega
      · have hb : ((d : Int) % 2 == 1) = false := by simp; omega
        have hs : Hid (Crc.sh d = d / 2) := hide (sh_ev d (by omega))
        clear h
        go_wp2
        go_round
        case rel => exact ⟨k + 1, by omega, by go_num, by rw [hsn.out, hs.out]; rfl⟩
        case measure => simp [intOf]; omega
    · obtain rfl : k = 8 := by omega
      go_wp2
      go_ret
      exact ⟨rfl, rfl⟩
end Go.Proofs.Ytecmfpgccmmlpaa

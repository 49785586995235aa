/- CrA CrB -/
import Derived.Test.YteckglnfkgfefaaK
import Derived.Test.YteckglnfkgfefaaCdMath3
import Derived.WalkKit
import Derived.WalkSpells
import Derived.WalkLawsBesides
import Derived.Outline
/- contracts of small functions -/
namespace Go.Proofs.Yteckglnfkgfefaa
open Go.RowKit
set_option maxRecDepth 40000
theorem ret_u32 {a b : Int} (h : a = b) : Ending.returned (.int .u32 a) = .returned (.int .u32 b) := by rw [h]
theorem and_one (c : Nat) (hc : c < 4294967296) : bits .and .u32 (c : Int) 1 = ((c % 2 : Nat) : Int) := by
  have h := u32_and_nat c 1 hc (by decide)
  rw [Nat.and_one_is_mod] at h
  exact h
theorem xor_P (c : Nat) (hc : c < 4294967296) : bits .xor .u32 ((c : Int) / 2) 3988292384 = ((c / 2 ^^^ 3988292384 : Nat) : Int) := by
  have h := u32_xor_nat (c / 2) 3988292384 (by omega) (by decide)
  rw [← h]; rfl
theorem sh_odd (c : Nat) (h : c % 2 = 1) : Crc.sh c = c / 2 ^^^ 3988292384 := by unfold Crc.sh Crc.P; rw [h]
theorem sh_ev (c : Nat) (h : c % 2 = 0) : Crc.sh c = c / 2 := by unfold Crc.sh; rw [h]; simp
theorem shift_any (c : Nat) (hc : c < 4294967296) (w : World) :
    Calls Try.prog 96 #[.int .u32 c] w fun e w' => e = .returned (.int .u32 (Crc.sh c : Nat)) ∧ w' = w := by
  have ha := and_one c hc
  by_cases h : c % 2 = 1
  · have hb : (bits .and .u32 (c : Int) 1 == 1) = true := by rw [ha, h]; rfl
    have hx := xor_P c hc
    have hs : Hid (Crc.sh c = c / 2 ^^^ 3988292384) := hide (sh_odd c h)
    clear ha h
    go_enter Try.func96, Try.ntmps96
    go_wp2
    go_ret
    exact ⟨ret_u32 (by rw [hs.out]), rfl⟩
  · have h0 : c % 2 = 0 := by omega
    have hb : (bits .and .u32 (c : Int) 1 == 1) = false := by rw [ha, h0]; rfl
    have hs : Hid (Crc.sh c = c / 2) := hide (sh_ev c h0)
    clear ha h h0
    go_enter Try.func96, Try.ntmps96
    go_wp2
    go_ret
    exact ⟨ret_u32 (by rw [hs.out]; rfl), rfl⟩
/-- ladingref02.bits -/
theorem bits_any (c : Nat) (hc : c < 4294967296) (w : World) :
    Calls Try.prog 90 #[.int .u32 c] w fun e w' => e = .returned (.int .u32 (Crc.shN 8 c : Nat)) ∧ w' = w := by
  go_enter Try.func90, Try.ntmps90
  go_wp2
  go_loop [0, 3] (fun x i => ∃ k : Nat, k ≤ 8 ∧ i = .int .i64 k ∧ x = .int .u32 (Crc.shN k c : Nat)) (fun _ i => 8 - (intOf i).toNat)
  case atStart => exact ⟨0, by omega, rfl, rfl⟩
  case round =>
    obtain ⟨k, hk, rfl, rfl⟩ := hrel
    by_cases hlt : k < 8
    · have hd := Crc.shN_lt k c hc
      have hsn : Hid (Crc.shN (k + 1) c = Crc.sh (Crc.shN k c)) := hide (Crc.shN_succ k c)
      generalize hg : Crc.shN k c = d at *
      have Hg := hide hg
      clear hg
      by_cases h : d % 2 = 1
      · have hb : ((d : Int) % 2 == 1) = true := by simp; omega
        have hx := xor_P d hd
        have hs : Hid (Crc.sh d = d / 2 ^^^ 3988292384) := hide (sh_odd d h)
        clear h
        go_wp2
        go_round
        case rel => exact ⟨k + 1, by omega, by go_num, by rw [hsn.out, hs.out]⟩
        case measure => simp [intOf]; omega
      · have hb : ((d : Int) % 2 == 1) = false := by simp; omega
        have hs : Hid (Crc.sh d = d / 2) := hide (sh_ev d (by omega))
        clear h
        go_wp2
        go_round
        case rel => exact ⟨k + 1, by omega, by go_num, by rw [hsn.out, hs.out]; rfl⟩
        case measure => simp [intOf]; omega
    · obtain rfl : k = 8 := by omega
      go_wp2
      go_ret
      exact ⟨rfl, rfl⟩
end Go.Proofs.Yteckglnfkgfefaa
/- contracts: tables and Update -/
namespace Go.Proofs.Yteckglnfkgfefaa
open Go.RowKit
set_option maxRecDepth 40000
def tab (k : Nat) : Array Value := ((List.range 16).map fun i => Value.int .u32 (if i < k then (Crc.shN 4 i : Nat) else (0 : Nat) : Nat)).toArray
theorem tab_size (k : Nat) : (tab k).size = 16 := rfl
theorem tab_zero : tab 0 = #[.int .u32 0, .int .u32 0, .int .u32 0, .int .u32 0, .int .u32 0, .int .u32 0, .int .u32 0, .int .u32 0, .int .u32 0, .int .u32 0, .int .u32 0, .int .u32 0, .int .u32 0, .int .u32 0, .int .u32 0, .int .u32 0] := rfl
theorem tab_get (k j : Nat) (h : j < 16) : (tab k)[j]? = some (Value.int .u32 ((if j < k then Crc.shN 4 j else 0 : Nat) : Nat)) := by
  simp [tab, h]
theorem tab_set (k : Nat) (h : k < 16) : (tab k).setIfInBounds k (.int .u32 (Crc.shN 4 k : Nat)) = tab (k + 1) := by
  apply Array.ext_getElem?
  intro j
  rw [Array.getElem?_setIfInBounds]
  by_cases hj : j < 16
  · rw [tab_get (k + 1) j hj]
    by_cases e : k = j
    · subst e; simp [tab_size, h]
    · rw [if_neg e, tab_get k j hj]
      have : (j < k) ↔ (j < k + 1) := by omega
      simp only [this]
  · have h1 : (tab k)[j]? = none := by simp [tab_size]; omega
    have h2 : (tab (k + 1))[j]? = none := by simp [tab_size]; omega
    rw [h2]
    have : k ≠ j := by omega
    simp [this, h1]
theorem tab_full : tab 16 = #[.int .u32 0, .int .u32 498536548, .int .u32 997073096, .int .u32 651767980, .int .u32 1994146192, .int .u32 1802195444, .int .u32 1303535960, .int .u32 1342533948, .int .u32 3988292384, .int .u32 4027552580, .int .u32 3604390888, .int .u32 3412177804, .int .u32 2607071920, .int .u32 2262029012, .int .u32 2685067896, .int .u32 3183342108] := rfl
set_option maxRecDepth 100000 in
theorem nibbles_any (w : World) :
    Calls Try.prog 89 #[] w fun e w' => e = .returned (.agg (tab 16)) ∧ Below w.heap.size w w' := by
  go_enter Try.func89, Try.ntmps89
  go_wp2
  go_loopw [2, 3, 4] (fun _ _ i wr => ∃ k : Nat, k ≤ 16 ∧ i = .int .u32 k ∧ wr = (w.alloc (.cells (tab 0) 127)).alloc (.cells (tab k) 127)) (fun _ _ i _ => 16 - (intOf i).toNat)
  case atStart => exact ⟨0, by omega, rfl, rfl⟩
  case round =>
    obtain ⟨k, hk, rfl, rfl⟩ := hrel
    by_cases hlt : k < 16
    · have hb : decide ((k : Int) < 16) = true := by simp; omega
      go_wp2
      go_loop [3, 8] (fun x i => ∃ m : Nat, m ≤ 4 ∧ i = .int .i64 m ∧ x = .int .u32 (Crc.shN m k : Nat)) (fun _ i => 4 - (intOf i).toNat)
      case atStart => exact ⟨0, by omega, rfl, rfl⟩
      case round =>
        obtain ⟨m, hm, rfl, rfl⟩ := hrel
        by_cases hlt4 : m < 4
        · have hd := Crc.shN_lt m k (by omega)
          have hsn : Hid (Crc.shN (m + 1) k = Crc.sh (Crc.shN m k)) := hide (Crc.shN_succ m k)
          go_wp2_with (go_at_call 96; refine (shift_any _ hd _).mono ?_; rintro e w' ⟨rfl, rfl⟩)
          go_round
          case rel => exact ⟨m + 1, by omega, by go_num, by rw [hsn.out]⟩
          case measure => simp [intOf]; omega
        · obtain rfl : m = 4 := by omega
          have hts := tab_set k hlt
          have hg := tab_get k k hlt
          have hz := tab_size k
          go_wp2
          go_roundw
          case rel => exact ⟨k + 1, by omega, by go_num, rfl⟩
          case measure => simp [intOf]; omega
    · obtain rfl : k = 16 := by omega
      rw [tab_full, tab_zero]
      go_wp2
      exact bodyPost_ret (v := .agg (tab 16)) (by simp [results, Try.results89, go_sem, tab_full]) rfl ⟨rfl, ((Below.refl _ _).alloc (Nat.le_refl _) _).alloc (by simp) _⟩
end Go.Proofs.Yteckglnfkgfefaa

/- contracts: tables and Update -/
import Derived.Test.YtecmfpgccmmlpaaCrA
namespace Go.Proofs.Ytecmfpgccmmlpaa
open Go.RowKit
set_option maxRecDepth 40000
def tab (k : Nat) : Array Value := ((List.range 16).map fun i => Value.int .u32 (if i < k then (Crc.shN 4 i : Nat) else (0 : Nat) : Nat)).toArray
theorem tab_size (k : Nat) : (tab k).size = 16 := rfl
theorem tab_zero : tab 0 = #[.int .u32 0, .int .u32 0, .int .u32 0, .int .u32 0, .int .u32 0, .int .u32 0, .int .u32 0, .int .u32 0, .int .u32 0, .int .u32 0, .int .u32 0, .int .u32 0, .int .u32 0, .int .u32 0, .int .u32 0, .int .u32 0] := rfl
theorem tab_get (k j : Nat) (h : j < 16) : (tab k)[j]? = some (Value.int .u32 ((if j < k then Crc.shN 4 j else 0 : Nat) : Nat)) := by
  simp [tab, h]
theorem tab_set (k : Nat) (h : k < 16) : (tab k).setIfInBounds k (.int .u32 (Crc.shN 4 k : Nat)) = tab (k + 1) := by
  apply Array.ext_getElem?
  intro j
  rw [Array.getElem?_setIfInBounds]
  by_cases hj : j < 16
  · rw [tab_get (k + 1) j hj]
    by_cases e : k = j
    · subst e; simp [tab_size, h]
    · rw [if_neg e, tab_get k j hj]
      have : (j < k) ↔ (j < k + 1) := by omega
      simp only [this]
  · have h1 : (tab k)[j]? = none := by simp [tab_size]; omega
    have h2 : (tab (k + 1))[j]? = none := by simp [tab_size]; omega
    rw [h2]
    have : k ≠ j := by omega
    simp [this, h1]
theorem tab_full : tab 16 = #[.int .u32 0, .int .u32 498536548, .int .u32 997073096, .int .u32 651767980, .int .u32 1994146192, .int .u32 1802195444, .int .u32 1303535960, .int .u32 1342533948, .int .u32 3988292384, .int .u32 4027552580, .int .u32 3604390888, .int .u32 3412177804, .int .u32 2607071920, .int .u32 2262029012, .int .u32 2685067896, .int .u32 3183342108] := rfl
set_option maxRecDepth 100000 in
theorem nibbles_any (w : World) :
    Calls Try.prog 75 #[] w fun e w' => e = .returned (.agg (tab 16)) ∧ Below w.heap.size w w' := by
  go_enter Try.func75, Try.ntmps75
  go_wp2
  go_loopw [2, 3, 4] (fun _ _ i wr => ∃ k : Nat, k ≤ 16 ∧ i = .int .u32 k ∧ wr = (w.alloc (.cells (tab 0) 110)).alloc (.cells (tab k) 110)) (fun _ _ i _ => 16 - (intOf i).toNat)
  case atStart => exact ⟨0, by omega, rfl, rfl⟩
  case round =>
    obtain ⟨k, hk, rfl, rfl⟩ := hrel
    by_cases hlt : k < 16
    · have hb : decide ((k : Int) < 16) = true := by simp; omega
      go_wp2
      go_loop [3, 8] (fun x i => ∃ m : Nat, m ≤ 4 ∧ i = .int .i64 m ∧ x = .int .u32 (Crc.shN m k : Nat)) (fun _ i => 4 - (intOf i).toNat)
      case atStart => exact ⟨0, by omega, rfl, rfl⟩
      case round =>
        obtain ⟨m, hm, rfl, rfl⟩ := hrel
        by_cases hlt4 : m < 4
        · have hd := Crc.shN_lt m k (by omega)
          have hsn : Hid (Crc.shN (m + 1) k = Crc.sh (Crc.shN m k)) := hide (Crc.shN_succ m k)
          go_wp2_with (go_at_call 80; refine (shift_any _ hd _).mono ?_; rintro e w' ⟨rfl, rfl⟩)
          go_round
          case rel => exact ⟨m + 1, by omega, by go_num, by rw [hsn.out]⟩
          case measure => simp [intOf]; omega
        · obtain rfl : m = 4 := by omega
          have hts := tab_set k hlt
          have hg := tab_get k k hlt
          have hz := tab_size k
          go_wp2
          go_roundw
          case rel => exact ⟨k + 1, by omega, by go_num, rfl⟩
          case measure => simp [intOf]; omega
    · obtain rfl : k = 16 := by omega
      rw [tab_full, tab_zero]
      go_wp2
      exact bodyPost_ret (v := .agg (tab 16)) (by simp [results, Try.results75, go_sem, tab_full]) rfl ⟨rfl, ((Below.refl _ _).alloc (Nat.le_refl _) _).alloc (by simp) _⟩
end Go.Proofs.Ytecmfpgccmmlpaa

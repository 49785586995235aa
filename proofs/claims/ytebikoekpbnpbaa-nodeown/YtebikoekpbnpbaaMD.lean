/- MD RB -/
import Derived.Test.YtebikoekpbnpbaaMB
import Derived.Test.YtebikoekpbnpbaaRMath
/- lists of slices and of numbers put together -/
namespace Go.Proofs.Ytebikoekpbnpbaa
open Go.RowKit Cod
set_option maxRecDepth 100000
set_option linter.unusedVariables false
set_option linter.unusedSimpArgs false
/-- values that are slices of bytes -/
def ElB (w : World) (xs : List Value) (L : List (List Nat)) : Prop := xs.length = L.length ∧ ∀ i, i < L.length → ∃ a n c, xs[i]? = some (.slice a n c) ∧ IsB w a n c (L.getD i [])
theorem ElB.below {w w' : World} {xs : List Value} {L : List (List Nat)} (h : ElB w xs L) (hb : Below w.heap.size w w') : ElB w' xs L := ⟨h.1, fun i hi => by
  obtain ⟨a, n, c, e, hB⟩ := h.2 i hi
  exact ⟨a, n, c, e, hB.below hb⟩⟩
theorem ElB.one {w : World} {xs : List Value} {L : List (List Nat)} (h : ElB w xs L) : ∀ v ∈ xs, v.oneCell' = true := fun v hv => by
  obtain ⟨i, hi, rfl⟩ := List.getElem_of_mem hv
  obtain ⟨a, n, c, e, _⟩ := h.2 i (by rw [← h.1]; exact hi)
  rw [List.getElem?_eq_getElem hi] at e
  rw [Option.some.inj e]
  rfl
theorem ElB.app {w : World} {xs ys : List Value} {L M : List (List Nat)} (h : ElB w xs L) (h' : ElB w ys M) : ElB w (xs ++ ys) (L ++ M) := by
  refine ⟨by rw [List.length_append, List.length_append, h.1, h'.1], fun i hi => ?_⟩
  rw [List.length_append] at hi
  by_cases hl : i < L.length
  · obtain ⟨a, n, c, e, hB⟩ := h.2 i hl
    refine ⟨a, n, c, by rw [List.getElem?_append_left (by rw [h.1]; exact hl)]; exact e, ?_⟩
    rwa [List.getD_eq_getElem?_getD, List.getElem?_append_left hl, ← List.getD_eq_getElem?_getD]
  · obtain ⟨a, n, c, e, hB⟩ := h'.2 (i - L.length) (by omega)
    refine ⟨a, n, c, by rw [List.getElem?_append_right (by rw [h.1]; omega), h.1]; exact e, ?_⟩
    rwa [List.getD_eq_getElem?_getD, List.getElem?_append_right (by omega), ← List.getD_eq_getElem?_getD]
theorem IsL.vs {w : World} {a : Option Addr} {n c : Nat} {L : List (List Nat)} (h : IsL w a n c L) : ∃ xs, Vs w a n c xs ∧ ElB w xs L := by
  obtain ⟨h1, h2, h3, h4, h5⟩ := h
  have hf : ∀ i, ∃ x : Value, i < n → ∃ b off a' n' c', a = some ⟨b, off, none⟩ ∧ b < w.heap.size ∧ w.cell? ⟨b, off + i, none⟩ = some x ∧ x = .slice a' n' c' ∧ IsB w a' n' c' (L.getD i []) := fun i => by
    by_cases hi : i < n
    · obtain ⟨b, off, a', n', c', e, hlt, hc, hB⟩ := h5 i hi
      exact ⟨.slice a' n' c', fun _ => ⟨b, off, a', n', c', e, hlt, hc, rfl, hB⟩⟩
    · exact ⟨.slice none 0 0, fun h => absurd h hi⟩
  obtain ⟨f, hf⟩ := Classical.axiomOfChoice hf
  have hg : ∀ i, i < n → ((List.range n).map f)[i]? = some (f i) := fun i hi => by
    rw [List.getElem?_map, List.getElem?_range hi]
    rfl
  have hE : ElB w ((List.range n).map f) L := by
    refine ⟨by rw [List.length_map, List.length_range, h1], fun i hi => ?_⟩
    obtain ⟨b, off, a', n', c', e, hlt, hc, he, hB⟩ := hf i (by omega)
    exact ⟨a', n', c', by rw [hg i (by omega), he], hB⟩
  refine ⟨(List.range n).map f, ⟨by rw [List.length_map, List.length_range], h2, h3, h4, hE.one, fun i hi => ?_⟩, hE⟩
  obtain ⟨b, off, a', n', c', e, hlt, hc, he, hB⟩ := hf i hi
  exact ⟨b, off, e, hlt, by rw [hg i hi, hc]⟩
theorem own_isL {w : World} {base n : Nat} {v : Value} {xs : List Value} {L : List (List Nat)} (hl : L.length = n) (hE : ElB w xs L) (h : w.ownsRow base 26 1 v n xs) : ∃ a cap, v = .slice a n cap ∧ IsL w a n cap L := by
  rcases h.2 with ⟨rfl, rfl⟩ | ⟨g, cap, cur, rfl, hbs, hg, hn, hm, hs, ht⟩
  · exact ⟨none, 0, rfl, hl, Nat.le_refl _, Nat.zero_le _, fun _ => rfl, fun i hi => absurd hi (Nat.not_lt_zero _)⟩
  · refine ⟨_, cap, rfl, hl, hn, hm, nofun, fun i hi => ?_⟩
    obtain ⟨a, n', c, e, hB⟩ := hE.2 i (by omega)
    refine ⟨g, 0, a, n', c, rfl, heap_ltN hg, ?_, hB⟩
    rw [Nat.zero_add]
    refine cell_blkN hg ?_
    have h1 : cur.toList[i]? = xs[i]? := by
      rw [← ht, List.getElem?_take, if_pos (by omega)]
    rw [e] at h1
    simpa using h1
end Go.Proofs.Ytebikoekpbnpbaa
/- contracts: tables and Update -/
namespace Go.Proofs.Ytebikoekpbnpbaa
open Go.RowKit
set_option maxRecDepth 40000
def tab (k : Nat) : Array Value := ((List.range 16).map fun i => Value.int .u32 (if i < k then (Crc.shN 4 i : Nat) else (0 : Nat) : Nat)).toArray
theorem tab_size (k : Nat) : (tab k).size = 16 := rfl
theorem tab_zero : tab 0 = #[.int .u32 0, .int .u32 0, .int .u32 0, .int .u32 0, .int .u32 0, .int .u32 0, .int .u32 0, .int .u32 0, .int .u32 0, .int .u32 0, .int .u32 0, .int .u32 0, .int .u32 0, .int .u32 0, .int .u32 0, .int .u32 0] := rfl
theorem tab_get (k j : Nat) (h : j < 16) : (tab k)[j]? = some (Value.int .u32 ((if j < k then Crc.shN 4 j else 0 : Nat) : Nat)) := by
  simp [tab, h]
theorem tab_set (k : Nat) (h : k < 16) : (tab k).setIfInBounds k (.int .u32 (Crc.shN 4 k : Nat)) = tab (k + 1) := by
  apply Array.ext_getElem?
  intro j
  rw [Array.getElem?_setIfInBounds]
  by_cases hj : j < 16
  · rw [tab_get (k + 1) j hj]
    by_cases e : k = j
    · subst e; simp [tab_size, h]
    · rw [if_neg e, tab_get k j hj]
      have : (j < k) ↔ (j < k + 1) := by omega
      simp only [this]
  · have h1 : (tab k)[j]? = none := by simp [tab_size]; omega
    have h2 : (tab (k + 1))[j]? = none := by simp [tab_size]; omega
    rw [h2]
    have : k ≠ j := by omega
    simp [this, h1]
theorem tab_full : tab 16 = #[.int .u32 0, .int .u32 498536548, .int .u32 997073096, .int .u32 651767980, .int .u32 1994146192, .int .u32 1802195444, .int .u32 1303535960, .int .u32 1342533948, .int .u32 3988292384, .int .u32 4027552580, .int .u32 3604390888, .int .u32 3412177804, .int .u32 2607071920, .int .u32 2262029012, .int .u32 2685067896, .int .u32 3183342108] := rfl
set_option maxRecDepth 100000 in
theorem nibbles_any (w : World) :
    Calls Try.prog 98 #[] w fun e w' => e = .returned (.agg (tab 16)) ∧ Below w.heap.size w w' := by
  go_enter Try.func98, Try.ntmps98
  go_wp2
  go_loopw [2, 3, 4] (fun _ _ i wr => ∃ k : Nat, k ≤ 16 ∧ i = .int .u32 k ∧ wr = (w.alloc (.cells (tab 0) 105)).alloc (.cells (tab k) 105)) (fun _ _ i _ => 16 - (intOf i).toNat)
  case atStart => exact ⟨0, by omega, rfl, rfl⟩
  case round =>
    obtain ⟨k, hk, rfl, rfl⟩ := hrel
    by_cases hlt : k < 16
    · have hb : decide ((k : Int) < 16) = true := by simp; omega
      go_wp2
      go_loop [3, 8] (fun x i => ∃ m : Nat, m ≤ 4 ∧ i = .int .i64 m ∧ x = .int .u32 (Crc.shN m k : Nat)) (fun _ i => 4 - (intOf i).toNat)
      case atStart => exact ⟨0, by omega, rfl, rfl⟩
      case round =>
        obtain ⟨m, hm, rfl, rfl⟩ := hrel
        by_cases hlt4 : m < 4
        · have hd := Crc.shN_lt m k (by omega)
          have hsn : Hid (Crc.shN (m + 1) k = Crc.sh (Crc.shN m k)) := hide (Crc.shN_succ m k)
          go_wp2_with (go_at_call 105; refine (shift_any _ hd _).mono ?_; rintro e w' ⟨rfl, rfl⟩)
          go_round
          case rel => exact ⟨m + 1, by omega, by go_num, by rw [hsn.out]⟩
          case measure => simp [intOf]; omega
        · obtain rfl : m = 4 := by omega
          have hts := tab_set k hlt
          have hg := tab_get k k hlt
          have hz := tab_size k
          go_wp2
          go_roundw
          case rel => exact ⟨k + 1, by omega, by go_num, rfl⟩
          case measure => simp [intOf]; omega
    · obtain rfl : k = 16 := by omega
      rw [tab_full, tab_zero]
      go_wp2
      exact bodyPost_ret (v := .agg (tab 16)) (by simp [results, Try.results98, go_sem, tab_full]) rfl ⟨rfl, ((Below.refl _ _).alloc (Nat.le_refl _) _).alloc (by simp) _⟩
end Go.Proofs.Ytebikoekpbnpbaa

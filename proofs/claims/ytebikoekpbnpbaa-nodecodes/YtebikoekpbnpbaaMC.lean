/- MC NW MF MD RB -/
import Derived.Test.YtebikoekpbnpbaaMA
import Derived.Test.YtebikoekpbnpbaaNT
import Derived.Test.YtebikoekpbnpbaaNN
import Derived.Test.YtebikoekpbnpbaaRMath
/- Split of inner pages; what Split refuses -/
namespace Go.Proofs.Ytebikoekpbnpbaa
open Go.RowKit Go.Lib Cod
set_option maxRecDepth 100000
set_option linter.unusedVariables false
set_option linter.unusedSimpArgs false
/-- why Split refuses -/
def splitE (p : Pg) : Int := if checkE p = 0 then (if p.keys.length < (if p.leaf = true then 2 else 3) then 2 else 0) else checkE p
end Go.Proofs.Ytebikoekpbnpbaa
/- NodeFound: what is put is found, what is cut is not -/
namespace Go.Proofs.Ytebikoekpbnpbaa
open Go.RowKit Cod
set_option linter.unusedVariables false
set_option linter.unusedSimpArgs false
theorem srt_rise {l : List (List Nat)} (h : SrtK l) : riseB l = true := by
  unfold riseB
  rw [List.all_eq_true]
  intro i hi
  unfold riseAt
  by_cases h0 : i = 0
  · simp [h0]
  · rw [srt_getD h (i := i - 1) (j := i) (by omega) (List.mem_range.1 hi)]
    simp
theorem sumB_app (a b : List (List Nat)) : sumB (a ++ b) = sumB a + sumB b := by simp only [sumB, List.map_append, List.sum_append]
theorem sumB_drop (l : List (List Nat)) (i : Nat) : sumB (l.drop i) ≤ sumB l := by
  have h := sumB_app (l.take i) (l.drop i)
  rw [List.take_append_drop] at h
  omega
theorem num_mono : ∀ (b a : Nat), a ≤ b → nLen a ≤ nLen b := by
  intro b
  induction b using Nat.strongRecOn with
  | ind b ih =>
    intro a h
    unfold nLen at *
    by_cases h1 : a < 128
    · rw [num_small h1]
      have := List.length_pos_iff.2 (num_ne b)
      simp only [List.length_cons, List.length_nil]
      omega
    · rw [num_great (by omega : 128 ≤ a), num_great (by omega : 128 ≤ b)]
      simp only [List.length_cons]
      have := ih (b / 128) (by omega) (a / 128) (Nat.div_le_div_right h)
      omega
theorem leaf_of {p : Pg} (h : checkE p = 0) (hl : p.leaf = true) : leafB p = true := by
  rcases check_kind h with h | h
  · exact h
  · simp [innerB, hl] at h
theorem size_of {p : Pg} (h : checkE p = 0) : sizeP p ≤ 4096 := by
  have hk := check_kind h
  unfold checkE at h
  rw [if_pos hk] at h
  split at h
  · cases h
  · omega
theorem check_leaf {p : Pg} (h : leafB p = true) (hs : sizeP p ≤ 4096) : checkE p = 0 := by
  unfold checkE
  rw [if_pos (.inl h), if_neg (by omega)]
theorem leaf_eq {p : Pg} (h : leafB p = true) : p = ⟨true, p.keys, p.vals, []⟩ ∧ p.vals.length = p.keys.length := by
  simp only [leafB, Bool.and_eq_true, decide_eq_true_eq] at h
  obtain ⟨⟨⟨⟨h1, h2⟩, h3⟩, _⟩, _⟩ := h
  obtain ⟨lf, ks, vs, is⟩ := p
  dsimp only at *
  rw [h1, List.length_eq_zero_iff.1 h3]
  exact ⟨rfl, h2⟩
/-- what NodeFound asks, of a page a that was put into and the page b that was cut from it -/
structure FoundP (p a b : Pg) (key val : List Nat) : Prop where
  aleaf : a.leaf = true
  ach : checkE a = 0
  bleaf : b.leaf = true
  bch : checkE b = 0
  afind : ∃ n, findR a key = (n, true, 0) ∧ n < a.vals.length ∧ a.vals.getD n [] = val
  cut : cutR a key = (b, true, 0)
  bfind : ∃ n, findR b key = (n, false, 0)
  lens : b.keys.length + 1 = a.keys.length
  rest : ∀ other, ¬ other = key → ∃ i j x, findR p other = (i, x, 0) ∧ findR b other = (j, x, 0) ∧ (x = true → i < p.vals.length ∧ j < b.vals.length ∧ p.vals.getD i [] = b.vals.getD j [])
end Go.Proofs.Ytebikoekpbnpbaa
/- parts of pages, and pages put together (pure) -/
namespace Go.Proofs.Ytebikoekpbnpbaa
open Go.RowKit Cod
set_option linter.unusedVariables false
set_option linter.unusedSimpArgs false
theorem subL_get {α : Type} (l : List α) (f t i : Nat) : (subL l f t)[i]? = if i < t - f then l[f + i]? else none := by
  unfold subL
  rw [List.getElem?_take, List.getElem?_drop]
theorem subL_all {α : Type} (l : List α) : subL l 0 l.length = l := by simp [subL]
theorem subL_app {α : Type} (l : List α) (f m t : Nat) (h1 : f ≤ m) (h2 : m ≤ t) (h3 : t ≤ l.length) : subL l f m ++ subL l m t = subL l f t := by
  apply List.ext_getElem?
  intro i
  have hl : (subL l f m).length = m - f := subL_len (by omega)
  by_cases hi : i < m - f
  · rw [List.getElem?_append_left (by omega), subL_get, subL_get, if_pos hi, if_pos (by omega)]
  · rw [List.getElem?_append_right (by omega), hl, subL_get, subL_get]
    by_cases h : i < t - f
    · rw [if_pos (by omega), if_pos h]
      congr 1
      omega
    · rw [if_neg (by omega), if_neg h]
theorem subL_one {l : List (List Nat)} {m : Nat} (h : m < l.length) : subL l m (m + 1) = [l.getD m []] := by
  apply List.ext_getElem?
  intro i
  rw [subL_get]
  by_cases hi : i = 0
  · subst hi
    rw [if_pos (by omega), Nat.add_zero, List.getD_eq_getElem?_getD, List.getElem?_eq_getElem h]
    rfl
  · rw [if_neg (by omega), List.getElem?_eq_none (by simp; omega)]
theorem subL_mem {α : Type} {l : List α} {f t : Nat} {x : α} (h : x ∈ subL l f t) : x ∈ l := List.mem_of_mem_drop (List.mem_of_mem_take h)
theorem subL_srt {l : List (List Nat)} (h : SrtK l) (f t : Nat) : SrtK (subL l f t) := List.Pairwise.sublist (List.Sublist.trans (List.take_sublist _ _) (List.drop_sublist _ _)) h
theorem sumK_app (a b : List Int) : sumK (a ++ b) = sumK a + sumK b := by simp only [sumK, List.map_append, List.sum_append]
theorem sumK_drop (l : List Int) (i : Nat) : sumK (l.drop i) ≤ sumK l := by
  conv => rhs; rw [← List.take_append_drop i l]
  rw [sumK_app]
  omega
theorem sumB_sub (l : List (List Nat)) (f t : Nat) : sumB (subL l f t) ≤ sumB l := Nat.le_trans (sumB_le _ _) (sumB_drop _ _)
theorem sumK_sub (l : List Int) (f t : Nat) : sumK (subL l f t) ≤ sumK l := Nat.le_trans (sumK_le _ _) (sumK_drop _ _)
/-- a part of a page -/
def partP (p : Pg) (f t : Nat) : Pg := if p.leaf = true then lpP p f t else ipP p f t
def offP (p : Pg) : Nat := if p.leaf = true then 0 else 1
/-- two pages put together -/
def mergeP (a : Pg) (k : List Nat) (b : Pg) : Pg := if a.leaf = true then ⟨true, a.keys ++ b.keys, a.vals ++ b.vals, []⟩ else ⟨false, a.keys ++ [k] ++ b.keys, [], a.kids ++ b.kids⟩
theorem part_leaf (p : Pg) (f t : Nat) : (partP p f t).leaf = p.leaf := by
  unfold partP
  cases p.leaf <;> rfl
theorem part_keys (p : Pg) (f t : Nat) : (partP p f t).keys = subL p.keys f t := by
  unfold partP
  cases p.leaf <;> rfl
theorem inner_of {p : Pg} (h : checkE p = 0) (hl : p.leaf = false) : innerB p = true := by
  rcases check_kind h with h1 | h1
  · simp [leafB, hl] at h1
  · exact h1
theorem check_inner {p : Pg} (h : innerB p = true) (hs : sizeP p ≤ 4096) : checkE p = 0 := by
  unfold checkE
  rw [if_pos (.inr h), if_neg (by omega)]
theorem part_check {p : Pg} (hp : checkE p = 0) {f t : Nat} (h1 : f < t) (h2 : t ≤ p.keys.length) : checkE (partP p f t) = 0 := by
  have hs := size_of hp
  have hsr := check_srt hp
  have hlk : (subL p.keys f t).length = t - f := subL_len h2
  unfold sizeP at hs
  have n1 := num_mono p.keys.length (t - f) (by omega)
  have n2 := sumB_sub p.keys f t
  unfold partP
  cases hl : p.leaf with
  | true =>
    have hb := leaf_of hp hl
    have hv := (leaf_eq hb).2
    simp only [leafB, Bool.and_eq_true, decide_eq_true_eq, keysB] at hb
    obtain ⟨⟨⟨⟨_, _⟩, hk0⟩, hkr, hks⟩, hvs⟩ := hb
    have n3 := sumB_sub p.vals f t
    refine check_leaf ?_ ?_
    · simp only [if_true, leafB, lpP, Bool.and_eq_true, decide_eq_true_eq, keysB]
      refine ⟨⟨⟨⟨by trivial, ?_⟩, rfl⟩, srt_rise (subL_srt hsr f t), ?_⟩, ?_⟩
      · rw [hlk, subL_len (by omega)]
      · unfold shortB at hks ⊢
        rw [List.all_eq_true] at hks ⊢
        exact fun x hx => hks x (subL_mem hx)
      · unfold shortB at hvs ⊢
        rw [List.all_eq_true] at hvs ⊢
        exact fun x hx => hvs x (subL_mem hx)
    · simp only [if_true, sizeP, lpP]
      rw [hlk]
      have e0 : sumK [] = 0 := rfl
      rw [e0]
      omega
  | false =>
    have hb := inner_of hp hl
    simp only [innerB, Bool.and_eq_true, decide_eq_true_eq, keysB] at hb
    obtain ⟨⟨⟨⟨⟨_, hk0⟩, hik⟩, hv0⟩, hkr, hks⟩, his⟩ := hb
    have n3 := sumK_sub p.kids f (t + 1)
    have hli : (subL p.kids f (t + 1)).length = t + 1 - f := subL_len (by omega)
    refine check_inner ?_ ?_
    · rw [if_neg (by decide)]
      simp only [innerB, ipP, Bool.and_eq_true, decide_eq_true_eq, keysB]
      refine ⟨⟨⟨⟨⟨rfl, decide_eq_true (show 0 < (subL p.keys f t).length by omega)⟩, decide_eq_true (show (subL p.kids f (t + 1)).length = (subL p.keys f t).length + 1 by omega)⟩, rfl⟩, srt_rise (subL_srt hsr f t), ?_⟩, ?_⟩
      · unfold shortB at hks ⊢
        rw [List.all_eq_true] at hks ⊢
        exact fun x hx => hks x (subL_mem hx)
      · unfold kidsB at his ⊢
        rw [List.all_eq_true] at his ⊢
        exact fun x hx => his x (subL_mem hx)
    · rw [if_neg (by decide)]
      simp only [sizeP, ipP]
      rw [hlk]
      have e0 : sumB [] = 0 := rfl
      rw [e0]
      omega
theorem inner_kids {p : Pg} (hp : checkE p = 0) (hl : p.leaf = false) : p.kids.length = p.keys.length + 1 ∧ p.vals = [] := by
  have := inner_lens hp hl
  exact ⟨this.2.1, List.length_eq_zero_iff.1 this.2.2.1⟩
theorem part_all {p : Pg} (hp : checkE p = 0) : partP p 0 p.keys.length = p := by
  unfold partP
  cases hl : p.leaf with
  | true =>
    have h := leaf_eq (leaf_of hp hl)
    simp only [if_true, lpP]
    rw [subL_all, ← h.2, subL_all]
    exact h.1.symm
  | false =>
    have h := inner_kids hp hl
    rw [if_neg (by decide)]
    unfold ipP
    rw [subL_all, ← h.1, subL_all, ← hl, ← h.2]
theorem part_merge {p : Pg} (hp : checkE p = 0) {f m t : Nat} (h1 : f ≤ m) (h2 : m + offP p ≤ t) (h3 : t ≤ p.keys.length) : mergeP (partP p f m) (p.keys.getD m []) (partP p (m + offP p) t) = partP p f t := by
  unfold mergeP
  rw [part_leaf]
  unfold partP offP at *
  cases hlf : p.leaf with
  | true =>
    have hv := (leaf_eq (leaf_of hp hlf)).2
    rw [hlf] at h2
    simp only [if_true, lpP, Nat.add_zero] at h2 ⊢
    rw [subL_app _ _ _ _ h1 h2 h3, subL_app _ _ _ _ h1 h2 (by omega)]
  | false =>
    have hi := inner_kids hp hlf
    rw [hlf] at h2
    rw [if_neg (show ¬ false = true by decide)] at h2
    rw [if_neg (show ¬ false = true by decide), if_neg (show ¬ false = true by decide), if_neg (show ¬ false = true by decide), if_neg (show ¬ false = true by decide)]
    unfold ipP
    simp only
    rw [← subL_one (by omega), subL_app _ _ _ _ h1 (by omega) (by omega), subL_app _ _ _ _ (by omega) h2 h3, subL_app _ _ _ _ (by omega) (by omega) (by omega)]
    rfl
theorem part_key {p : Pg} {f g t : Nat} (h : g < t - f) : (partP p f t).keys.getD g [] = p.keys.getD (f + g) [] := by
  rw [part_keys, subL_getD h]
theorem part_len {p : Pg} {f t : Nat} (h : t ≤ p.keys.length) : (partP p f t).keys.length = t - f := by rw [part_keys, subL_len h]
theorem key_short {p : Pg} (hp : checkE p = 0) {m : Nat} (h : m < p.keys.length) : (p.keys.getD m []).length ≤ 256 := by
  have hb : shortB 256 p.keys = true := by
    rcases check_kind hp with h1 | h1
    · simp only [leafB, Bool.and_eq_true, keysB] at h1
      exact h1.1.2.2
    · simp only [innerB, Bool.and_eq_true, keysB] at h1
      exact h1.1.2.2
  unfold shortB at hb
  rw [List.all_eq_true] at hb
  exact of_decide_eq_true (hb _ (getD_mem h))
/-- where a page is split -/
def SplitAt (p : Pg) (m : Nat) : Prop := 1 ≤ m ∧ m + offP p < p.keys.length
end Go.Proofs.Ytebikoekpbnpbaa
/- lists of slices and of numbers put together -/
namespace Go.Proofs.Ytebikoekpbnpbaa
open Go.RowKit Cod
set_option maxRecDepth 100000
set_option linter.unusedVariables false
set_option linter.unusedSimpArgs false
/-- values that are slices of bytes -/
def ElB (w : World) (xs : List Value) (L : List (List Nat)) : Prop := xs.length = L.length ∧ ∀ i, i < L.length → ∃ a n c, xs[i]? = some (.slice a n c) ∧ IsB w a n c (L.getD i [])
theorem ElB.below {w w' : World} {xs : List Value} {L : List (List Nat)} (h : ElB w xs L) (hb : Below w.heap.size w w') : ElB w' xs L := ⟨h.1, fun i hi => by
  obtain ⟨a, n, c, e, hB⟩ := h.2 i hi
  exact ⟨a, n, c, e, hB.below hb⟩⟩
theorem ElB.one {w : World} {xs : List Value} {L : List (List Nat)} (h : ElB w xs L) : ∀ v ∈ xs, v.oneCell' = true := fun v hv => by
  obtain ⟨i, hi, rfl⟩ := List.getElem_of_mem hv
  obtain ⟨a, n, c, e, _⟩ := h.2 i (by rw [← h.1]; exact hi)
  rw [List.getElem?_eq_getElem hi] at e
  rw [Option.some.inj e]
  rfl
theorem IsL.vs {w : World} {a : Option Addr} {n c : Nat} {L : List (List Nat)} (h : IsL w a n c L) : ∃ xs, Vs w a n c xs ∧ ElB w xs L := by
  obtain ⟨h1, h2, h3, h4, h5⟩ := h
  have hf : ∀ i, ∃ x : Value, i < n → ∃ b off a' n' c', a = some ⟨b, off, none⟩ ∧ b < w.heap.size ∧ w.cell? ⟨b, off + i, none⟩ = some x ∧ x = .slice a' n' c' ∧ IsB w a' n' c' (L.getD i []) := fun i => by
    by_cases hi : i < n
    · obtain ⟨b, off, a', n', c', e, hlt, hc, hB⟩ := h5 i hi
      exact ⟨.slice a' n' c', fun _ => ⟨b, off, a', n', c', e, hlt, hc, rfl, hB⟩⟩
    · exact ⟨.slice none 0 0, fun h => absurd h hi⟩
  obtain ⟨f, hf⟩ := Classical.axiomOfChoice hf
  have hg : ∀ i, i < n → ((List.range n).map f)[i]? = some (f i) := fun i hi => by
    rw [List.getElem?_map, List.getElem?_range hi]
    rfl
  have hE : ElB w ((List.range n).map f) L := by
    refine ⟨by rw [List.length_map, List.length_range, h1], fun i hi => ?_⟩
    obtain ⟨b, off, a', n', c', e, hlt, hc, he, hB⟩ := hf i (by omega)
    exact ⟨a', n', c', by rw [hg i (by omega), he], hB⟩
  refine ⟨(List.range n).map f, ⟨by rw [List.length_map, List.length_range], h2, h3, h4, hE.one, fun i hi => ?_⟩, hE⟩
  obtain ⟨b, off, a', n', c', e, hlt, hc, he, hB⟩ := hf i hi
  exact ⟨b, off, e, hlt, by rw [hg i hi, hc]⟩
theorem own_isL {w : World} {base n : Nat} {v : Value} {xs : List Value} {L : List (List Nat)} (hl : L.length = n) (hE : ElB w xs L) (h : w.ownsRow base 26 1 v n xs) : ∃ a cap, v = .slice a n cap ∧ IsL w a n cap L := by
  rcases h.2 with ⟨rfl, rfl⟩ | ⟨g, cap, cur, rfl, hbs, hg, hn, hm, hs, ht⟩
  · exact ⟨none, 0, rfl, hl, Nat.le_refl _, Nat.zero_le _, fun _ => rfl, fun i hi => absurd hi (Nat.not_lt_zero _)⟩
  · refine ⟨_, cap, rfl, hl, hn, hm, nofun, fun i hi => ?_⟩
    obtain ⟨a, n', c, e, hB⟩ := hE.2 i (by omega)
    refine ⟨g, 0, a, n', c, rfl, heap_ltN hg, ?_, hB⟩
    rw [Nat.zero_add]
    refine cell_blkN hg ?_
    have h1 : cur.toList[i]? = xs[i]? := by
      rw [← ht, List.getElem?_take, if_pos (by omega)]
    rw [e] at h1
    simpa using h1
end Go.Proofs.Ytebikoekpbnpbaa
/- contracts: tables and Update -/
namespace Go.Proofs.Ytebikoekpbnpbaa
open Go.RowKit
set_option maxRecDepth 40000
def tab (k : Nat) : Array Value := ((List.range 16).map fun i => Value.int .u32 (if i < k then (Crc.shN 4 i : Nat) else (0 : Nat) : Nat)).toArray
theorem tab_size (k : Nat) : (tab k).size = 16 := rfl
theorem tab_zero : tab 0 = #[.int .u32 0, .int .u32 0, .int .u32 0, .int .u32 0, .int .u32 0, .int .u32 0, .int .u32 0, .int .u32 0, .int .u32 0, .int .u32 0, .int .u32 0, .int .u32 0, .int .u32 0, .int .u32 0, .int .u32 0, .int .u32 0] := rfl
theorem tab_get (k j : Nat) (h : j < 16) : (tab k)[j]? = some (Value.int .u32 ((if j < k then Crc.shN 4 j else 0 : Nat) : Nat)) := by
  simp [tab, h]
theorem tab_set (k : Nat) (h : k < 16) : (tab k).setIfInBounds k (.int .u32 (Crc.shN 4 k : Nat)) = tab (k + 1) := by
  apply Array.ext_getElem?
  intro j
  rw [Array.getElem?_setIfInBounds]
  by_cases hj : j < 16
  · rw [tab_get (k + 1) j hj]
    by_cases e : k = j
    · subst e; simp [tab_size, h]
    · rw [if_neg e, tab_get k j hj]
      have : (j < k) ↔ (j < k + 1) := by omega
      simp only [this]
  · have h1 : (tab k)[j]? = none := by simp [tab_size]; omega
    have h2 : (tab (k + 1))[j]? = none := by simp [tab_size]; omega
    rw [h2]
    have : k ≠ j := by omega
    simp [this, h1]
theorem tab_full : tab 16 = #[.int .u32 0, .int .u32 498536548, .int .u32 997073096, .int .u32 651767980, .int .u32 1994146192, .int .u32 1802195444, .int .u32 1303535960, .int .u32 1342533948, .int .u32 3988292384, .int .u32 4027552580, .int .u32 3604390888, .int .u32 3412177804, .int .u32 2607071920, .int .u32 2262029012, .int .u32 2685067896, .int .u32 3183342108] := rfl
set_option maxRecDepth 100000 in
theorem nibbles_any (w : World) :
    Calls Try.prog 98 #[] w fun e w' => e = .returned (.agg (tab 16)) ∧ Below w.heap.size w w' := by
  go_enter Try.func98, Try.ntmps98
  go_wp2
  go_loopw [2, 3, 4] (fun _ _ i wr => ∃ k : Nat, k ≤ 16 ∧ i = .int .u32 k ∧ wr = (w.alloc (.cells (tab 0) 105)).alloc (.cells (tab k) 105)) (fun _ _ i _ => 16 - (intOf i).toNat)
  case atStart => exact ⟨0, by omega, rfl, rfl⟩
  case round =>
    obtain ⟨k, hk, rfl, rfl⟩ := hrel
    by_cases hlt : k < 16
    · have hb : decide ((k : Int) < 16) = true := by simp; omega
      go_wp2
      go_loop [3, 8] (fun x i => ∃ m : Nat, m ≤ 4 ∧ i = .int .i64 m ∧ x = .int .u32 (Crc.shN m k : Nat)) (fun _ i => 4 - (intOf i).toNat)
      case atStart => exact ⟨0, by omega, rfl, rfl⟩
      case round =>
        obtain ⟨m, hm, rfl, rfl⟩ := hrel
        by_cases hlt4 : m < 4
        · have hd := Crc.shN_lt m k (by omega)
          have hsn : Hid (Crc.shN (m + 1) k = Crc.sh (Crc.shN m k)) := hide (Crc.shN_succ m k)
          go_wp2_with (go_at_call 105; refine (shift_any _ hd _).mono ?_; rintro e w' ⟨rfl, rfl⟩)
          go_round
          case rel => exact ⟨m + 1, by omega, by go_num, by rw [hsn.out]⟩
          case measure => simp [intOf]; omega
        · obtain rfl : m = 4 := by omega
          have hts := tab_set k hlt
          have hg := tab_get k k hlt
          have hz := tab_size k
          go_wp2
          go_roundw
          case rel => exact ⟨k + 1, by omega, by go_num, rfl⟩
          case measure => simp [intOf]; omega
    · obtain rfl : k = 16 := by omega
      rw [tab_full, tab_zero]
      go_wp2
      exact bodyPost_ret (v := .agg (tab 16)) (by simp [results, Try.results98, go_sem, tab_full]) rfl ⟨rfl, ((Below.refl _ _).alloc (Nat.le_refl _) _).alloc (by simp) _⟩
end Go.Proofs.Ytebikoekpbnpbaa

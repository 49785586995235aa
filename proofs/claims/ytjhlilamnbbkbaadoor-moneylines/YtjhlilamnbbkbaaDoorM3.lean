/- contracts: areWeights, part, handOut -/
import Derived.Test.YtjhlilamnbbkbaaDoorM2
import Derived.Deep.QuietTactic
import Derived.BigQuiet
namespace Go.Proofs.YtjhlilamnbbkbaaDoor
open Go.RowKit Go.Shelf
def aw (l : List Int) : Bool := l.all (fun x => decide (0 ≤ x)) && l.any (fun x => decide (0 < x))
theorem take_snocI (l : List Int) (k : Nat) (h : k < l.length) : l.take (k + 1) = l.take k ++ [l.getD k 0] := by
  rw [List.take_succ_eq_append_getElem h, List.getD_eq_getElem?_getD, List.getElem?_eq_getElem h]; rfl
theorem aw_neg (l : List Int) (k : Nat) (h : k < l.length) (hn : l.getD k 0 < 0) : aw l = false := by
  unfold aw
  have : l.all (fun x => decide (0 ≤ x)) = false := by
    rw [List.all_eq_false]
    refine ⟨l[k], List.getElem_mem h, ?_⟩
    rw [List.getD_eq_getElem?_getD, List.getElem?_eq_getElem h] at hn
    simp at hn
    simp; omega
  rw [this]; rfl
theorem areWeights_some (b off len cap : Nat) (l : List Int) (w : World) (hl : l.length = len) (hlen : len ≤ 17592186044416)
    (hcell : ∀ i, i < len → w.cell? ⟨b, off + i, none⟩ = some (.int .i64 (l.getD i 0))) :
    Calls Tryd.prog 35 #[.slice (some ⟨b, off, none⟩) len cap] w fun e w' => e = .returned (.bool (aw l)) ∧ w' = w := by
  go_enter Tryd.func35, Tryd.ntmps35
  go_wp2_with fail
  go_loop [3, 5, 8] (fun sm _ i => ∃ (k : Nat) (s : Bool), k ≤ len ∧ i = .int .i64 k ∧ sm = .bool s ∧ Hid (s = (l.take k).any (fun x => decide (0 < x))) ∧ Hid ((l.take k).all (fun x => decide (0 ≤ x)) = true)) (fun _ _ i => len - (intOf i).toNat)
  case atStart => exact ⟨0, false, by omega, rfl, rfl, hide (by simp), hide (by simp)⟩
  case round =>
    obtain ⟨k, s, hk, rfl, rfl, hs, hall⟩ := hrel
    by_cases hlt : k < len
    · have hcx := hcell k hlt
      have HT := hide (take_snocI l k (by omega))
      have HA := hide (aw_neg l k (by omega))
      clear hcell
      generalize l.getD k 0 = n at *
      by_cases hn : n < 0
      · have HF : Hid (aw l = false) := hide (HA.out hn)
        clear HA
        go_wp2
        go_ret
        exact ⟨by rw [HF.out]; rfl, rfl⟩
      · have H2 : Hid ((l.take (k + 1)).all (fun x => decide (0 ≤ x)) = true) := hide (by rw [HT.out, List.all_append, hall.out]; simp; omega)
        clear HA
        cases s
        · have H1 : Hid (decide (0 < n) = (l.take (k + 1)).any (fun x => decide (0 < x))) := hide (by rw [HT.out, List.any_append, ← hs.out]; simp)
          go_wp2
          go_round
          case rel => exact ⟨k + 1, _, by omega, by go_num, rfl, H1, H2⟩
          case measure => simp [intOf]; omega
        · have H1 : Hid (true = (l.take (k + 1)).any (fun x => decide (0 < x))) := hide (by rw [HT.out, List.any_append, ← hs.out]; simp)
          go_wp2
          go_round
          case rel => exact ⟨k + 1, _, by omega, by go_num, rfl, H1, H2⟩
          case measure => simp [intOf]; omega
    · have htk : l.take k = l := List.take_of_length_le (by omega)
      rw [htk] at hs hall
      have HF : Hid (aw l = s) := hide (by unfold aw; rw [hall.out, ← hs.out]; simp)
      clear htk
      go_wp2
      go_ret
      exact ⟨by rw [HF.out]; rfl, rfl⟩
theorem areWeights_none (a : Option Addr) (cap : Nat) (w : World) :
    Calls Tryd.prog 35 #[.slice a 0 cap] w fun e w' => e = .returned (.bool false) ∧ w' = w := by
  go_enter Tryd.func35, Tryd.ntmps35
  go_wp2_with fail
  go_loop [3, 8] (fun sm i => sm = .bool false ∧ i = .int .i64 0) (fun _ _ => 0)
  case atStart => exact ⟨rfl, rfl⟩
  case round =>
    obtain ⟨rfl, rfl⟩ := hrel
    go_wp2
    go_ret
    exact ⟨rfl, rfl⟩
/-- money.areWeights -/
theorem areWeights_any (a : Option Addr) (len cap : Nat) (l : List Int) (w : World) (h : IsI w a len cap l) (hlen : len ≤ 17592186044416) :
    Calls Tryd.prog 35 #[.slice a len cap] w fun e w' => e = .returned (.bool (aw l)) ∧ w' = w := by
  obtain ⟨hl, _, _, _, h⟩ := h
  rcases h with ⟨rfl, _⟩ | ⟨b, off, rfl, hb, hcell⟩
  · obtain rfl : l = [] := List.length_eq_zero_iff.1 hl
    exact areWeights_none a cap w
  · exact areWeights_some b off len cap l w hl hlen hcell
theorem ret_u2 {a b c d : Int} (h : a = b) (h' : c = d) : Ending.returned (.tuple #[.int .u64 a, .int .u64 c]) = .returned (.tuple #[.int .u64 b, .int .u64 d]) := by rw [h, h']
/-- math/bits.Div64 where the high part is nought -/
theorem div64_low (lo y : Nat) (hlo : lo < 18446744073709551616) (hy : 0 < y) (w : World) :
    Calls Tryd.prog 46 #[.int .u64 0, .int .u64 lo, .int .u64 y] w fun e w' => e = .returned (.tuple #[.int .u64 (lo / y : Nat), .int .u64 (lo % y : Nat)]) ∧ ∃ n, w' = w.drewN n := by
  have h1 : ((y : Int) == 0) = false := by simp; omega
  have h2 : ¬ (y : Int) ≤ 0 := by omega
  have h3 : (0 : Int) < (y : Int) := by omega
  have hq : lo / y ≤ lo := Nat.div_le_self _ _
  have E1 : Hid (IntKind.u64.wrap ((lo : Int) / (y : Int)) = ((lo / y : Nat) : Int)) := hide (by
    rw [wrapU, show (lo : Int) / (y : Int) = ((lo / y : Nat) : Int) by simp]
    generalize lo / y = q at *
    omega)
  have E2 : Hid ((lo : Int) % (y : Int) = ((lo % y : Nat) : Int)) := hide (by simp)
  clear hq
  go_enter Tryd.func46, Tryd.ntmps46
  go_wp2
  go_quiet (fail)
  go_wp2
  go_ret2
  exact ⟨ret_u2 E1.out E2.out, _, rfl⟩
theorem ret_i64 {a b : Int} (h : a = b) : Ending.returned (.int .i64 a) = .returned (.int .i64 b) := by rw [h]
/-- money.part, where the product is below 2 to the 64th -/
theorem part_low (t x A : Nat) (ht : t < 9223372036854775808) (hx : x < 9223372036854775808) (hA : 0 < A) (hA2 : A < 9223372036854775808) (hp : t * x < 18446744073709551616) (hq : t * x / A ≤ 9223372036854775807) (w : World) :
    Calls Tryd.prog 36 #[.int .i64 t, .int .i64 x, .int .i64 A] w fun e w' => e = .returned (.int .i64 (t * x / A : Nat)) ∧ ∃ n, w' = w.drewN n := by
  have M := hide (fun W => Tryd.bits_Mul64 t x (by omega) (by omega) W)
  rw [show t * x / 18446744073709551616 = 0 by omega, show t * x % 18446744073709551616 = t * x by omega] at M
  have D := hide (fun W => div64_low (t * x) A hp hA W)
  generalize t * x = p at *
  generalize hg : p / A = q at *
  generalize p % A = r at *
  clear hg
  go_enter Tryd.func36, Tryd.ntmps36
  go_wp2_with fail
  refine (M.out _).mono ?_
  rintro e w' ⟨rfl, rfl⟩
  go_wp2_with fail
  refine (D.out _).mono ?_
  rintro e w1 ⟨rfl, n, hn⟩
  go_wp2
  go_ret
  exact ⟨rfl, n, rfl⟩
def RowI (w : World) (g len cap : Nat) (m : List Int) : Prop :=
  m.length = len ∧ len ≤ cap ∧ cap ≤ maxLen ∧ ∃ cur : Array Value, w.heap[g]? = some (.cells cur 2 (0, 0)) ∧ cur.size = cap ∧ cur.toList.take len = iv m
theorem RowI.lt {w : World} {g len cap : Nat} {m : List Int} (h : RowI w g len cap m) : g < w.heap.size := by
  obtain ⟨_, _, _, cur, hg, _⟩ := h
  exact (Array.getElem?_eq_some_iff.1 hg).1
theorem RowI.cell {w : World} {g len cap : Nat} {m : List Int} (h : RowI w g len cap m) {j : Nat} (hj : j < len) : w.cell? ⟨g, j, none⟩ = some (.int .i64 (m.getD j 0)) := by
  obtain ⟨h1, h2, h3, cur, hg, hs, ht⟩ := h
  have hv := iv_get m j (by omega)
  rw [← ht, List.getElem?_take, if_pos (by omega)] at hv
  simp only [World.cell?, hg]
  simpa using hv
theorem RowI.frozen {w : World} {g len cap : Nat} {m : List Int} (h : RowI w g len cap m) (j : Nat) : w.frozen? ⟨g, j, none⟩ = false := by
  obtain ⟨h1, h2, h3, cur, hg, hs, ht⟩ := h
  simp [World.frozen?, hg]
theorem RowI.set {w : World} {g len cap : Nat} {m : List Int} (h : RowI w g len cap m) (j : Nat) (x : Int) : RowI (w.setCell ⟨g, j, none⟩ (.int .i64 x)) g len cap (m.set j x) := by
  obtain ⟨h1, h2, h3, cur, hg, hs, ht⟩ := h
  refine ⟨by simpa using h1, h2, h3, cur.setIfInBounds j (.int .i64 x), ?_, by simpa using hs, ?_⟩
  · simp [World.setCell, Array.getElem?_modify, hg]
  · simp only [Array.toList_setIfInBounds, List.take_set, ht]
    simp [iv, List.map_set]
theorem RowI.below {B : Nat} {w w1 : World} {g len cap : Nat} {m : List Int} (h : RowI w g len cap m) (hb : Below B w w1) (hg : g < B) : RowI w1 g len cap m := by
  obtain ⟨h1, h2, h3, cur, hg', hs, ht⟩ := h
  exact ⟨h1, h2, h3, cur, by rw [hb.block g hg]; exact hg', hs, ht⟩
theorem RowI.isI {w : World} {g len cap : Nat} {m : List Int} (h : RowI w g len cap m) (hx : ∀ x ∈ m, -9223372036854775808 ≤ x ∧ x ≤ 9223372036854775807) : IsI w (some ⟨g, 0, none⟩) len cap m :=
  ⟨h.1, h.2.1, h.2.2.1, hx, .inr ⟨g, 0, rfl, h.lt, fun i hi => by rw [Nat.zero_add]; exact h.cell hi⟩⟩
theorem IsI.below {w w1 : World} {a : Option Addr} {len cap : Nat} {l : List Int} (h : IsI w a len cap l) (hb : Below w.heap.size w w1) : IsI w1 a len cap l := by
  obtain ⟨h1, h2, h3, h4, h5⟩ := h
  refine ⟨h1, h2, h3, h4, ?_⟩
  rcases h5 with h5 | ⟨b, off, rfl, hlt, hc⟩
  · exact .inl h5
  · exact .inr ⟨b, off, rfl, Nat.lt_of_lt_of_le hlt hb.size, fun i hi => (hb.cell (p := ⟨b, off + i, none⟩) hlt).trans (hc i hi)⟩
/-- what is left, one each, to the first that have a weight -/
def hand : Int → List Int → List Int → List Int
  | n, s :: ss, x :: xs => if 0 < n ∧ 0 < x then (s + 1) :: hand (n - 1) ss xs else s :: hand n ss xs
  | _, ss, _ => ss
theorem hand_step (n : Int) (m W : List Int) (k : Nat) (h1 : k < m.length) (h2 : k < W.length) :
    hand n (m.drop k) (W.drop k) = if 0 < n ∧ 0 < W.getD k 0 then (m.getD k 0 + 1) :: hand (n - 1) (m.drop (k + 1)) (W.drop (k + 1)) else m.getD k 0 :: hand n (m.drop (k + 1)) (W.drop (k + 1)) := by
  rw [List.drop_eq_getElem_cons h1, List.drop_eq_getElem_cons h2]
  simp only [hand, List.getD_eq_getElem?_getD, List.getElem?_eq_getElem h1, List.getElem?_eq_getElem h2, Option.getD_some]
end Go.Proofs.YtjhlilamnbbkbaaDoor

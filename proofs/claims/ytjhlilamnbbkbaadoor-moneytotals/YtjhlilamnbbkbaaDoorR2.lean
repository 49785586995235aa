/- contracts: the document's sum of all, Sum; money.Sum -/
import Derived.Test.YtjhlilamnbbkbaaDoorR1
namespace Go.Proofs.YtjhlilamnbbkbaaDoor
open Go.RowKit Go.Shelf Go.Sort Go.Lib
theorem ret_ib {a b : Int} {p q : Bool} (h : a = b) (h' : p = q) : Ending.returned (.tuple #[.int .i64 a, .bool p]) = .returned (.tuple #[.int .i64 b, .bool q]) := by rw [h, h']
open Classical
set_option maxHeartbeats 400000 in
theorem all_some (b off len cap : Nat) (l : List Int) (w : World) (hl : l.length = len) (hlen : len ≤ 4096) (hx : ∀ x ∈ l, -9223372036854775808 ≤ x ∧ x ≤ 9223372036854775807)
    (hcell : ∀ i, i < len → w.cell? ⟨b, off + i, none⟩ = some (.int .i64 (l.getD i 0))) :
    Calls Tryd.prog 34 #[.slice (some ⟨b, off, none⟩) len cap] w fun e w' => e = .returned (.tuple #[.int .i64 (num l.sum), .bool (decide (In64 l.sum))]) ∧ w' = w := by
  go_enter Tryd.func34, Tryd.ntmps34
  go_wp2_with fail
  go_loop [4, 5, 7, 8, 11] (fun hi lo _ _ i => ∃ (k : Nat) (H L : Int), k ≤ len ∧ i = .int .i64 k ∧ hi = .int .i64 H ∧ lo = .int .i64 L ∧ (-2147483648 * (k : Int) ≤ H ∧ H ≤ 2147483647 * (k : Int)) ∧ (0 ≤ L ∧ L ≤ 4294967295 * (k : Int)) ∧ Hid (H * 4294967296 + L = (l.take k).sum)) (fun _ _ _ _ i => len - (RowKit.intOf i).toNat)
  case atStart => exact ⟨0, 0, 0, by omega, rfl, rfl, rfl, by omega, by omega, hide rfl⟩
  case round =>
    obtain ⟨k, H, L, hk, rfl, rfl, rfl, hH, hL, hS⟩ := hrel
    by_cases hlt : k < len
    · have hcx := hcell k hlt
      have hn := getD_bd l k hx
      have HS := hide (sum_take l k (by omega))
      clear hcell hx
      generalize l.getD k 0 = n at *
      go_wp2
      go_round
      case rel => exact ⟨k + 1, _, _, by omega, by go_num, rfl, rfl, by omega, by omega, hide (by rw [HS.out, ← hS.out]; omega)⟩
      case measure => simp [RowKit.intOf]; omega
    · have htk : l.take k = l := List.take_of_length_le (by omega)
      rw [htk] at hS
      have hS' := hS.out
      clear htk hcell hx
      by_cases hin : In64 l.sum
      · have HN : Hid (decide (In64 l.sum) = true) := hide (decide_eq_true hin)
        have HM : Hid (num l.sum = l.sum) := hide (num_in hin)
        unfold In64 at hin
        have c1 : ¬ H + L / 4294967296 < -2147483648 := by omega
        have c2 : ¬ 2147483647 < H + L / 4294967296 := by omega
        clear hin hS'
        go_wp2
        go_ret2
        exact ⟨ret_ib (by rw [HM.out, ← hS.out]; omega) HN.out.symm, rfl⟩
      · have HN : Hid (decide (In64 l.sum) = false) := hide (decide_eq_false hin)
        have HM : Hid (num l.sum = 0) := hide (num_out hin)
        unfold In64 at hin
        by_cases c1 : H + L / 4294967296 < -2147483648
        · clear hin hS'
          go_wp2
          go_ret2
          exact ⟨ret_ib HM.out.symm HN.out.symm, rfl⟩
        · have c2 : 2147483647 < H + L / 4294967296 := by omega
          clear hin hS'
          go_wp2
          go_ret2
          exact ⟨ret_ib HM.out.symm HN.out.symm, rfl⟩
theorem all_none (a : Option Addr) (cap : Nat) (w : World) :
    Calls Tryd.prog 34 #[.slice a 0 cap] w fun e w' => e = .returned (.tuple #[.int .i64 0, .bool true]) ∧ w' = w := by
  go_enter Tryd.func34, Tryd.ntmps34
  go_wp2_with fail
  go_loop [4, 5, 11] (fun hi lo i => hi = .int .i64 0 ∧ lo = .int .i64 0 ∧ i = .int .i64 0) (fun _ _ _ => 0)
  case atStart => exact ⟨rfl, rfl, rfl⟩
  case round =>
    obtain ⟨rfl, rfl, rfl⟩ := hrel
    go_wp2
    go_ret2
    exact ⟨rfl, rfl⟩
/-- ladingref01.all -/
theorem all_any (a : Option Addr) (len cap : Nat) (l : List Int) (w : World) (h : IsI w a len cap l) (hlen : len ≤ 4096) :
    Calls Tryd.prog 34 #[.slice a len cap] w fun e w' => e = .returned (.tuple #[.int .i64 (num l.sum), .bool (decide (In64 l.sum))]) ∧ w' = w := by
  obtain ⟨hl, _, _, hx, h⟩ := h
  rcases h with ⟨rfl, _⟩ | ⟨b, off, rfl, hb, hcell⟩
  · obtain rfl : l = [] := List.length_eq_zero_iff.1 hl
    have e1 : decide (In64 ([] : List Int).sum) = true := decide_eq_true (by simp [In64])
    rw [e1]
    exact all_none a cap w
  · exact all_some b off len cap l w hl hlen hx hcell
/-- what Sum answers -/
def sums (l : List Int) : Int × Int := if 4096 < l.length then (0, 3) else (num l.sum, err l.sum)
/-- money.Sum -/
theorem sum_any (a : Option Addr) (len cap : Nat) (l : List Int) (w : World) (h : IsI w a len cap l) :
    Calls Tryd.prog 18 #[.slice a len cap] w fun e w' => e = .returned (.tuple #[.int .i64 (sums l).1, .int .i64 (sums l).2]) ∧ w' = w := by
  have hl : l.length = len := h.1
  unfold sums
  rw [hl]
  by_cases hc : 4096 < len
  · rw [if_pos hc]
    have hc' : (4096 : Int) < len := by omega
    clear h
    go_enter Tryd.func18, Tryd.ntmps18
    go_wp2
    go_ret2
    exact ⟨rfl, rfl⟩
  · rw [if_neg hc]
    have hc' : ¬ (4096 : Int) < len := by omega
    have S := hide (fun W (hW : W = w) => hW ▸ sumUp_any a len cap l w h (by omega))
    clear h
    go_enter Tryd.func18, Tryd.ntmps18
    go_wp2_with fail
    refine (S.out _ rfl).mono ?_
    rintro e w' ⟨rfl, rfl⟩
    go_wp2
    go_ret2
    exact ⟨rfl, rfl⟩
/-- ladingref01.Sum -/
theorem refSum_any (a : Option Addr) (len cap : Nat) (l : List Int) (w : World) (h : IsI w a len cap l) :
    Calls Tryd.prog 19 #[.slice a len cap] w fun e w' => e = .returned (.tuple #[.int .i64 (sums l).1, .int .i64 (sums l).2]) ∧ w' = w := by
  have hl : l.length = len := h.1
  unfold sums
  rw [hl]
  by_cases hc : 4096 < len
  · rw [if_pos hc]
    have hc' : (4096 : Int) < len := by omega
    clear h
    go_enter Tryd.func19, Tryd.ntmps19
    go_wp2
    go_ret2
    exact ⟨rfl, rfl⟩
  · rw [if_neg hc]
    have hc' : ¬ (4096 : Int) < len := by omega
    have S := hide (fun W (hW : W = w) => hW ▸ all_any a len cap l w h (by omega))
    clear h
    by_cases hin : In64 l.sum
    · rw [err_in hin]
      rw [decide_eq_true hin] at S
      clear hin
      generalize num l.sum = N at *
      go_enter Tryd.func19, Tryd.ntmps19
      go_wp2_with fail
      refine (S.out _ rfl).mono ?_
      rintro e w' ⟨rfl, rfl⟩
      go_wp2
      go_ret2
      exact ⟨rfl, rfl⟩
    · rw [err_out hin, num_out hin]
      rw [decide_eq_false hin, num_out hin] at S
      clear hin
      go_enter Tryd.func19, Tryd.ntmps19
      go_wp2_with fail
      refine (S.out _ rfl).mono ?_
      rintro e w' ⟨rfl, rfl⟩
      go_wp2
      go_ret2
      exact ⟨rfl, rfl⟩
end Go.Proofs.YtjhlilamnbbkbaaDoor

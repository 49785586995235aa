/- contracts: Add64, sumUp, Sum -/
import Derived.Test.YtffhkljegopjmaaDoorGQ
import Derived.Test.YtffhkljegopjmaaDoorGAd
namespace Go.Proofs.YtffhkljegopjmaaDoor.Lg
open Go.RowKit Go.Shelf
set_option maxRecDepth 40000
/-- a slice of whole numbers reads as l -/
def IsI (w : World) (a : Option Addr) (len cap : Nat) (l : List Int) : Prop :=
  l.length = len ∧ len ≤ cap ∧ cap ≤ maxLen ∧ (∀ x ∈ l, -9223372036854775808 ≤ x ∧ x ≤ 9223372036854775807) ∧ (len = 0 ∧ (a = none → cap = 0) ∨ ∃ b off, a = some ⟨b, off, none⟩ ∧ b < w.heap.size ∧ ∀ i, i < len → w.cell? ⟨b, off + i, none⟩ = some (.int .i64 (l.getD i 0)))
theorem add64 (x y c : Int) (hx : 0 ≤ x) (hy : 0 ≤ y) (hc0 : 0 ≤ c) (hc : c ≤ 1) (w : World) : (callFunc 42 #[.int .u64 x, .int .u64 y, .int .u64 c]).run Tryd.prog w =
    .ok (.value (.tuple #[.int .u64 ((x + y + c) % 18446744073709551616), .int .u64 ((x + y + c) / 18446744073709551616)])) w := by
  obtain ⟨x, rfl⟩ := Int.eq_ofNat_of_zero_le hx
  obtain ⟨y, rfl⟩ := Int.eq_ofNat_of_zero_le hy
  obtain ⟨c, rfl⟩ := Int.eq_ofNat_of_zero_le hc0
  refine (Any7.bits_Add64 Tryd.lays25 x y c (by omega) w).trans ?_
  congr 5 <;> omega
theorem wrapU (n : Int) : IntKind.u64.wrap n = n % 18446744073709551616 := IntKind.wrap_u64 n
theorem sum_step (S n : Int) (h1 : -9223372036854775808 ≤ n) (h2 : n ≤ 9223372036854775807) : ∃ U L2 C V H2 C2 : Int, IntKind.u64.wrap n = U ∧ IntKind.u64.wrap (n / 9223372036854775808) = V ∧
    (∀ w, (callFunc 42 #[.int .u64 (S % 18446744073709551616), .int .u64 U, .int .u64 0]).run Tryd.prog w = .ok (.value (.tuple #[.int .u64 L2, .int .u64 C])) w) ∧
    (∀ w, (callFunc 42 #[.int .u64 (S / 18446744073709551616 % 18446744073709551616), .int .u64 V, .int .u64 C]).run Tryd.prog w = .ok (.value (.tuple #[.int .u64 H2, .int .u64 C2])) w) ∧
    Hid (L2 = (S + n) % 18446744073709551616) ∧ Hid (H2 = (S + n) / 18446744073709551616 % 18446744073709551616) := by
  refine ⟨n % 18446744073709551616, (S % 18446744073709551616 + n % 18446744073709551616) % 18446744073709551616, (S % 18446744073709551616 + n % 18446744073709551616) / 18446744073709551616, n / 9223372036854775808 % 18446744073709551616, (S / 18446744073709551616 % 18446744073709551616 + n / 9223372036854775808 % 18446744073709551616 + (S % 18446744073709551616 + n % 18446744073709551616) / 18446744073709551616) % 18446744073709551616, (S / 18446744073709551616 % 18446744073709551616 + n / 9223372036854775808 % 18446744073709551616 + (S % 18446744073709551616 + n % 18446744073709551616) / 18446744073709551616) / 18446744073709551616, wrapU _, wrapU _, ?_, ?_, ?_, ?_⟩
  · intro w
    have := add64 (S % 18446744073709551616) (n % 18446744073709551616) 0 (by omega) (by omega) (by omega) (by omega) w
    simpa using this
  · intro w
    exact add64 _ _ _ (by omega) (by omega) (by omega) (by omega) w
  · exact hide (by omega)
  · refine hide ?_
    have key : (S + n) / 18446744073709551616 = S / 18446744073709551616 + n / 18446744073709551616 + (S % 18446744073709551616 + n % 18446744073709551616) / 18446744073709551616 := by omega
    have hq : n / 9223372036854775808 = n / 18446744073709551616 := by omega
    rw [key, hq]
    generalize S / 18446744073709551616 = a
    generalize (S % 18446744073709551616 + n % 18446744073709551616) / 18446744073709551616 = c
    generalize n / 18446744073709551616 = d
    omega
theorem sum_end (S : Int) (h1 : -170141183460469231731687303715884105728 ≤ S) (h2 : S ≤ 170141183460469231731687303715884105727) : ∃ R V : Int, Go.RowKit.wrap64 (S % 18446744073709551616) = R ∧ IntKind.u64.wrap (R / 9223372036854775808) = V ∧
    (-9223372036854775808 ≤ S ∧ S ≤ 9223372036854775807 → Hid (R = S) ∧ (S / 18446744073709551616 % 18446744073709551616 != V) = false) ∧
    (¬ (-9223372036854775808 ≤ S ∧ S ≤ 9223372036854775807) → (S / 18446744073709551616 % 18446744073709551616 != V) = true) := by
  refine ⟨_, _, rfl, wrapU _, ?_, ?_⟩
  · intro h
    unfold Go.RowKit.wrap64
    refine ⟨hide (by omega), ?_⟩
    rw [bne_eq_false_iff_eq]
    have : S / 18446744073709551616 = 0 ∧ S % 18446744073709551616 = S ∨ S / 18446744073709551616 = -1 ∧ S % 18446744073709551616 = S + 18446744073709551616 := by omega
    rcases this with ⟨e1, e2⟩ | ⟨e1, e2⟩ <;> rw [e1, e2] <;> omega
  · intro h
    unfold Go.RowKit.wrap64
    rw [bne_iff_ne]
    have hb : S = 18446744073709551616 * (S / 18446744073709551616) + S % 18446744073709551616 := by omega
    have hc : 0 ≤ S % 18446744073709551616 ∧ S % 18446744073709551616 < 18446744073709551616 := by omega
    have hd : -9223372036854775808 ≤ S / 18446744073709551616 ∧ S / 18446744073709551616 ≤ 9223372036854775807 := by omega
    generalize S / 18446744073709551616 = a at *
    generalize S % 18446744073709551616 = b at *
    by_cases hs : b < 9223372036854775808
    · have e1 : (b + 9223372036854775808) % 18446744073709551616 - 9223372036854775808 = b := by omega
      have e2 : b / 9223372036854775808 % 18446744073709551616 = 0 := by omega
      rw [e1, e2]; omega
    · have e1 : (b + 9223372036854775808) % 18446744073709551616 - 9223372036854775808 = b - 18446744073709551616 := by omega
      have e2 : (b - 18446744073709551616) / 9223372036854775808 % 18446744073709551616 = 18446744073709551615 := by omega
      rw [e1, e2]; omega
theorem sum_take (l : List Int) (k : Nat) (h : k < l.length) : (l.take (k + 1)).sum = (l.take k).sum + l.getD k 0 := by
  rw [List.take_succ_eq_append_getElem h, List.sum_append, List.getD_eq_getElem?_getD, List.getElem?_eq_getElem h]; simp
theorem sum_bound (l : List Int) (hx : ∀ x ∈ l, -9223372036854775808 ≤ x ∧ x ≤ 9223372036854775807) : -9223372036854775808 * (l.length : Int) ≤ l.sum ∧ l.sum ≤ 9223372036854775807 * (l.length : Int) := by
  induction l with
  | nil => simp
  | cons x r ih =>
    have h1 := hx x List.mem_cons_self
    have h2 := ih (fun y hy => hx y (List.mem_cons_of_mem _ hy))
    simp only [List.sum_cons, List.length_cons]
    omega
theorem getD_bd (l : List Int) (k : Nat) (hx : ∀ x ∈ l, -9223372036854775808 ≤ x ∧ x ≤ 9223372036854775807) : -9223372036854775808 ≤ l.getD k 0 ∧ l.getD k 0 ≤ 9223372036854775807 := by
  rw [List.getD_eq_getElem?_getD]
  by_cases h : k < l.length
  · rw [List.getElem?_eq_getElem h]; exact hx _ (List.getElem_mem h)
  · rw [List.getElem?_eq_none (by omega)]; decide
/-- an int64 -/
def In64 (n : Int) : Prop := -9223372036854775808 ≤ n ∧ n ≤ 9223372036854775807
/-- what a checked number comes to -/
def num (n : Int) : Int := if -9223372036854775808 ≤ n ∧ n ≤ 9223372036854775807 then n else 0
def err (n : Int) : Int := if -9223372036854775808 ≤ n ∧ n ≤ 9223372036854775807 then 0 else 5
theorem ret_two {a b c d : Int} (h : a = b) (h' : c = d) : Ending.returned (.tuple #[.int .i64 a, .int .i64 c]) = .returned (.tuple #[.int .i64 b, .int .i64 d]) := by rw [h, h']
set_option maxHeartbeats 400000 in
theorem sumUp_some (b off len cap : Nat) (l : List Int) (w : World) (hl : l.length = len) (hlen : len ≤ 17592186044416) (hx : ∀ x ∈ l, -9223372036854775808 ≤ x ∧ x ≤ 9223372036854775807)
    (hcell : ∀ i, i < len → w.cell? ⟨b, off + i, none⟩ = some (.int .i64 (l.getD i 0))) :
    Calls Tryd.prog 21 #[.slice (some ⟨b, off, none⟩) len cap] w fun e w' => e = .returned (.tuple #[.int .i64 (num l.sum), .int .i64 (err l.sum)]) ∧ w' = w := by
  go_enter Tryd.func21, Tryd.ntmps21
  go_wp2_with fail
  go_loop [4, 5, 6, 8, 11] (fun hi lo _ _ i => ∃ (k : Nat) (H L : Int), k ≤ len ∧ i = .int .i64 k ∧ hi = .int .u64 H ∧ lo = .int .u64 L ∧ Hid (L = (l.take k).sum % 18446744073709551616) ∧ Hid (H = (l.take k).sum / 18446744073709551616 % 18446744073709551616)) (fun _ _ _ _ i => len - (intOf i).toNat)
  case atStart => exact ⟨0, 0, 0, by omega, rfl, rfl, rfl, hide rfl, hide rfl⟩
  case round =>
    obtain ⟨k, H, L, hk, rfl, rfl, rfl, hL, hH⟩ := hrel
    by_cases hlt : k < len
    · have hcx := hcell k hlt
      have hn := getD_bd l k hx
      have HS := hide (sum_take l k (by omega))
      clear hcell hx
      generalize l.getD k 0 = n at *
      obtain ⟨U, L2, C, V, H2, C2, e1, e2, e3, e4, e5, e6⟩ := sum_step (l.take k).sum n hn.1 hn.2
      rw [← hL.out] at e3
      rw [← hH.out] at e4
      clear hn
      go_wp2
      go_round
      case rel => exact ⟨k + 1, H2, L2, by omega, by go_num, rfl, rfl, hide (by rw [HS.out]; exact e5.out), hide (by rw [HS.out]; exact e6.out)⟩
      case measure => simp [intOf]; omega
    · have htk : l.take k = l := List.take_of_length_le (by omega)
      rw [htk] at hL hH
      have hbd := sum_bound l hx
      obtain ⟨R, V, e1, e2, e3, e4⟩ := sum_end l.sum (by omega) (by omega)
      rw [← hL.out] at e1
      rw [← hH.out] at e3 e4
      clear htk hbd hcell
      by_cases hin : -9223372036854775808 ≤ l.sum ∧ l.sum ≤ 9223372036854775807
      · obtain ⟨hR, e5⟩ := e3 hin
        have HN : Hid (num l.sum = R) := hide (by rw [hR.out]; exact if_pos hin)
        have HE : Hid (err l.sum = 0) := hide (if_pos hin)
        clear e3 e4 hin hR
        go_wp2
        go_ret2
        exact ⟨ret_two (by rw [HN.out]) (by rw [HE.out]), rfl⟩
      · have e5 := e4 hin
        have HN : Hid (num l.sum = 0) := hide (if_neg hin)
        have HE : Hid (err l.sum = 5) := hide (if_neg hin)
        clear e3 e4 hin
        go_wp2
        go_ret2
        exact ⟨ret_two (by rw [HN.out]) (by rw [HE.out]), rfl⟩
theorem sumUp_none (a : Option Addr) (cap : Nat) (w : World) :
    Calls Tryd.prog 21 #[.slice a 0 cap] w fun e w' => e = .returned (.tuple #[.int .i64 0, .int .i64 0]) ∧ w' = w := by
  have e1 : Go.RowKit.wrap64 0 = 0 := by unfold Go.RowKit.wrap64; omega
  have e2 : IntKind.u64.wrap 0 = 0 := by rw [wrapU]; decide
  go_enter Tryd.func21, Tryd.ntmps21
  go_wp2_with fail
  go_loop [4, 5, 11] (fun hi lo i => hi = .int .u64 0 ∧ lo = .int .u64 0 ∧ i = .int .i64 0) (fun _ _ _ => 0)
  case atStart => exact ⟨rfl, rfl, rfl⟩
  case round =>
    obtain ⟨rfl, rfl, rfl⟩ := hrel
    go_wp2
    go_ret2
    exact ⟨rfl, rfl⟩
/-- money.sumUp -/
theorem sumUp_any (a : Option Addr) (len cap : Nat) (l : List Int) (w : World) (h : IsI w a len cap l) (hlen : len ≤ 17592186044416) :
    Calls Tryd.prog 21 #[.slice a len cap] w fun e w' => e = .returned (.tuple #[.int .i64 (num l.sum), .int .i64 (err l.sum)]) ∧ w' = w := by
  obtain ⟨hl, _, _, hx, h⟩ := h
  rcases h with ⟨rfl, _⟩ | ⟨b, off, rfl, hb, hcell⟩
  · obtain rfl : l = [] := List.length_eq_zero_iff.1 hl
    exact sumUp_none a cap w
  · exact sumUp_some b off len cap l w hl hlen hx hcell

/-- money.Sum -/
theorem sum_any (a : Option Addr) (len cap : Nat) (l : List Int) (w : World) (h : IsI w a len cap l) (hc : len ≤ 4096) :
    Calls Tryd.prog 37 #[.slice a len cap] w fun e w' => e = .returned (.tuple #[.int .i64 (num l.sum), .int .i64 (err l.sum)]) ∧ w' = w := by
  have hl : l.length = len := h.1
  have hc' : ¬ (4096 : Int) < len := by omega
  have S := hide (fun W (hW : W = w) => hW ▸ sumUp_any a len cap l w h (by omega))
  clear h hl hc
  go_enter Tryd.func37, Tryd.ntmps37
  go_wp2_with fail
  refine (S.out _ rfl).mono ?_
  rintro e w' ⟨rfl, rfl⟩
  go_wp2
  go_ret2
  exact ⟨rfl, rfl⟩
end Go.Proofs.YtffhkljegopjmaaDoor.Lg

/- contracts: the document's ReadNum, ReadInt, ReadText -/
import Derived.Test.YteckglnfkgfefaaCdD
namespace Go.Proofs.Yteckglnfkgfefaa
open Go.RowKit Cod
set_option maxRecDepth 40000
theorem ref_fit (i acc x : Nat) (hi : i ≤ 9) (ha : acc < 128 ^ i) (hn : ¬ (i = 9 ∧ 1 < x % 128)) :
    ∃ T A : Nat, A = acc + x % 128 * 128 ^ i ∧ IntKind.u64.wrap ((x : Int) % 128 * 2 ^ (7 * i)) = (T : Int) ∧ IntKind.u64.wrap ((acc : Int) + (T : Int)) = (A : Int) ∧ A < 128 ^ (i + 1) ∧ A < 18446744073709551616 := by
  obtain ⟨T, A, hT, hA, e1, _, _, h1, h2⟩ := num_fit i acc (x % 128) hi (by omega) ha hn
  refine ⟨T, A, hA, ?_, ?_, h1, h2⟩
  · rw [← e1]; rfl
  · rw [IntKind.wrap_u64]; omega
set_option maxRecDepth 10000 in
set_option maxHeartbeats 1000000 in
theorem refReadNum_some (w : World) (b off len cap : Nat) (l : List Nat) (h : IsB w (some ⟨b, off, none⟩) len cap l) (hr : len ≤ 140737488355328) (h0 : 0 < len) : Calls Try.prog 41 #[.slice (some ⟨b, off, none⟩) len cap] w fun e w' =>
      ((∃ n p' v, rdNum l = some (n, l.drop p') ∧ n < 18446744073709551616 ∧ p' ≤ len ∧ e = .returned (.tuple #[.int .u64 (n : Nat), v, .int .i64 0]) ∧ w'.ownsRow w.heap.size 5 1 v (len - p') (bv (l.drop p'))) ∨
       (rdNum l = none ∧ e = .returned (.tuple #[.int .u64 0, .slice none 0 0, .int .i64 6]))) ∧ Below w.heap.size w w' := by
  have hlen := h.1
  have hcl := h.2.1
  have hcm : cap ≤ 9223372036854775807 := h.2.2.1
  have hxs := h.2.2.2.1
  obtain ⟨b', off', hbe, hlt, hcell⟩ := h.2.2.2.2.resolve_left (by omega)
  cases hbe
  have HC := hide hcell
  clear hcell
  go_enter Try.func41, Try.ntmps41
  go_wp2_with fail
  go_loop [5, 6, 7] (fun n s _ => ∃ i acc : Nat, i ≤ 10 ∧ i ≤ len ∧ s = .int .i64 (i : Int) ∧ n = .int .u64 acc ∧ Hid (rdNum l = rd i acc (l.drop i)) ∧ Hid (acc < 128 ^ i)) (fun _ s _ => 10 - (intOf s).toNat)
  case atStart => exact ⟨0, 0, by omega, by omega, rfl, rfl, hide rfl, hide (by decide)⟩
  case round =>
    obtain ⟨i, acc, hi, hil, rfl, rfl, HR, HA⟩ := hrel
    by_cases hend : i = len
    · have HN : Hid (rdNum l = none) := hide (by rw [HR.out, List.drop_eq_nil_of_le (by omega), rd_nil])
      have d1 : decide ((i : Int) < (len : Int)) = false := by simp; omega
      have d1' : decide (i < len) = false := by simp; omega
      have hge : len ≤ i := by omega
      clear hend
      go_wp2
      go_ret3
      exact ⟨.inr ⟨HN.out, rfl⟩, Below.refl _ _⟩
    by_cases h10 : i = 10
    · subst h10
      have HN : Hid (rdNum l = none) := hide (by rw [HR.out, rd_ten])
      have d1 : decide ((10 : Int) < (len : Int)) = true := by simp; omega
      go_wp2
      go_ret3
      exact ⟨.inr ⟨HN.out, rfl⟩, Below.refl _ _⟩
    have hx := getD_lt l i hxs
    have hc := HC.out i (by omega)
    have HD : Hid (l.drop i = l.getD i 0 :: l.drop (i + 1)) := hide (drop_cons l i (by omega))
    generalize l.getD i 0 = x at *
    have d1 : decide ((i : Int) < (len : Int)) = true := by simp; omega
    have d2 : decide ((i : Int) < 10) = true := by simp; omega
    by_cases hov : i = 9 ∧ 1 < x % 128
    · obtain ⟨rfl, hov⟩ := hov
      have HN : Hid (rdNum l = none) := hide (by rw [HR.out, HD.out, rd, if_neg (by omega), if_pos ⟨rfl, hov⟩])
      have d3 : decide ((1 : Int) < (x : Int) % 128) = true := by simp; omega
      go_wp2
      go_ret3
      exact ⟨.inr ⟨HN.out, rfl⟩, Below.refl _ _⟩
    obtain ⟨T, A, hA, e1, e3, hA3, HA4⟩ := ref_fit i acc x (by omega) HA.out hov
    have HA3 := hide hA3
    have HR2 : Hid (rdNum l = if x < 128 then (if x = 0 ∧ 0 < i then none else some (A, l.drop (i + 1))) else rd (i + 1) A (l.drop (i + 1))) := hide (by
      rw [HR.out, HD.out, rd, if_neg (by omega), if_neg hov, hA])
    clear HR HD HA hA hA3
    have d3 : ((i : Int) == 9 && decide ((1 : Int) < (x : Int) % 128)) = false := by
      by_cases h9 : i = 9
      · have : ¬ 1 < x % 128 := fun h => hov ⟨h9, h⟩
        simp; omega
      · simp; omega
    have d9 : ((i : Int) == 9) = false ∨ (((i : Int) == 9) = true ∧ decide ((1 : Int) < (x : Int) % 128) = false) := by
      by_cases h9 : i = 9
      · have : ¬ 1 < x % 128 := fun h => hov ⟨h9, h⟩
        exact .inr ⟨by simp; omega, by simp; omega⟩
      · exact .inl (by simp; omega)
    clear d3 hov
    by_cases hx8 : x < 128
    · have d4 : decide ((x : Int) < 128) = true := by simp; omega
      by_cases hx0 : x = 0 ∧ 0 < i
      · have HN : Hid (rdNum l = none) := hide (by rw [HR2.out, if_pos hx8, if_pos hx0])
        have d5 : ((x : Int) == 0) = true := by simp; omega
        have d6 : decide ((0 : Int) < (i : Int)) = true := by simp; omega
        have d7 : decide (0 < i) = true := by simp; omega
        have hi0 : 0 < i := hx0.2
        have HX := hide hx0
        clear hx0
        rcases d9 with d9 | ⟨d9, d10⟩
        · go_wp2
          go_ret3
          exact ⟨.inr ⟨HN.out, rfl⟩, Below.refl _ _⟩
        · go_wp2
          go_ret3
          exact ⟨.inr ⟨HN.out, rfl⟩, Below.refl _ _⟩
      · have HN : Hid (rdNum l = some (A, l.drop (i + 1))) := hide (by rw [HR2.out, if_pos hx8, if_neg hx0])
        have d5 : ((x : Int) == 0) = false ∨ (((x : Int) == 0) = true ∧ decide ((0 : Int) < (i : Int)) = false ∧ decide (0 < i) = false) := by
          by_cases hxz : x = 0
          · exact .inr ⟨by simp; omega, by simp; omega, by simp; omega⟩
          · exact .inl (by simp; omega)
        clear hx0 HR2
        have hsrc := h.back (i + 1) (by omega)
        by_cases hci : cap = i + 1
        · have hli : len = i + 1 := by omega
          subst hci
          subst hli
          rcases d9 with d9 | ⟨d9, d10⟩ <;> rcases d5 with d5 | ⟨d5, d6, d7⟩ <;> (
            go_wp2
            go_ret3
            have hown : (w.alloc (.cells #[] 5)).ownsRow w.heap.size 5 1 (.slice (some ⟨w.heap.size, 0, none⟩) 0 0) (i + 1 - (i + 1)) (bv (l.drop (i + 1))) := by
              rw [List.drop_eq_nil_of_le (by omega), Nat.sub_self]; exact owns_empty w _ (Nat.le_refl _)
            have hbb : Below w.heap.size w (w.alloc (.cells #[] 5)) := (Below.refl _ _).alloc (Nat.le_refl _) _
            first
              | exact ⟨.inl ⟨A, i + 1, _, HN.out, HA4, Nat.le_refl _, rfl, hown⟩, hbb⟩
              | exact ⟨.inl ⟨A, i + 1, HN.out, HA4, Nat.le_refl _, _, rfl, hown⟩, hbb⟩)
        · rcases d9 with d9 | ⟨d9, d10⟩ <;> rcases d5 with d5 | ⟨d5, d6, d7⟩ <;> (
            go_wp2_with (at_builtin; refine wpList_clone rfl _ _ rfl w.heap.size _ 0 [] rfl (owns_empty w _ (Nat.le_refl _)) (some ⟨b, off + (i + 1), none⟩) (len - (i + 1)) (cap - (i + 1)) (l.drop (i + 1)) rfl ?hB ?hb ?hbase w.heap.size w ?bel (Nat.le_refl _) ?_)
            case hB => exact hsrc.below ((Below.refl _ _).alloc (Nat.le_refl _) _)
            case hb => omega
            case bel => exact (Below.refl _ _).alloc (Nat.le_refl _) _
            intro v w1 hown0 hb1
            have hown : w1.ownsRow w.heap.size 5 1 v (len - (i + 1)) (bv (l.drop (i + 1))) := by simpa using hown0
            clear hown0
            go_wp2
            go_ret3
            first
              | exact ⟨.inl ⟨A, i + 1, v, HN.out, HA4, by omega, rfl, hown⟩, hb1⟩
              | exact ⟨.inl ⟨A, i + 1, HN.out, HA4, by omega, v, rfl, hown⟩, hb1⟩)
    · have d4 : decide ((x : Int) < 128) = false := by simp; omega
      have HN : Hid (rdNum l = rd (i + 1) A (l.drop (i + 1))) := hide (by rw [HR2.out, if_neg hx8])
      rcases d9 with d9 | ⟨d9, d10⟩
      · go_wp2
        go_round
        case rel => exact ⟨i + 1, A, by omega, by omega, by go_num, rfl, HN, HA3⟩
        case measure => simp [intOf]; omega
      · go_wp2
        go_round
        case rel => exact ⟨i + 1, A, by omega, by omega, by go_num, rfl, HN, HA3⟩
        case measure => simp [intOf]; omega
set_option maxRecDepth 10000 in
theorem refReadNum_none (w : World) (a : Option Addr) (cap : Nat) : Calls Try.prog 41 #[.slice a 0 cap] w fun e w' => e = .returned (.tuple #[.int .u64 0, .slice none 0 0, .int .i64 6]) ∧ w' = w := by
  go_enter Try.func41, Try.ntmps41
  go_wp2_with fail
  go_loop [5, 6] (fun n s => s = .int .i64 0 ∧ n = .int .u64 0) (fun _ _ => 0)
  case atStart => exact ⟨rfl, rfl⟩
  case round =>
    obtain ⟨rfl, rfl⟩ := hrel
    go_wp2
    go_ret3
    exact ⟨rfl, rfl⟩
/-- ladingref03.ReadNum -/
theorem refReadNum_any (a : Option Addr) (len cap : Nat) (l : List Nat) (w : World) (h : IsB w a len cap l) (hr : len ≤ 140737488355328) : Calls Try.prog 41 #[.slice a len cap] w fun e w' =>
      ((∃ n p' v, rdNum l = some (n, l.drop p') ∧ n < 18446744073709551616 ∧ p' ≤ len ∧ e = .returned (.tuple #[.int .u64 (n : Nat), v, .int .i64 0]) ∧ w'.ownsRow w.heap.size 5 1 v (len - p') (bv (l.drop p'))) ∨
       (rdNum l = none ∧ e = .returned (.tuple #[.int .u64 0, .slice none 0 0, .int .i64 6]))) ∧ Below w.heap.size w w' := by
  by_cases h0 : len = 0
  · subst h0
    obtain rfl : l = [] := List.length_eq_zero_iff.1 h.1
    refine (refReadNum_none w a cap).mono ?_
    rintro e w' ⟨rfl, rfl⟩
    exact ⟨.inr ⟨rd_nil 0 0, rfl⟩, Below.refl _ _⟩
  · obtain ⟨b, off, rfl, _, _⟩ := h.2.2.2.2.resolve_left (by omega)
    exact refReadNum_some w b off len cap l h hr (by omega)
end Go.Proofs.Yteckglnfkgfefaa

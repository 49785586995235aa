/- CdC CdD -/
import Derived.Test.YteckglnfkgfefaaCdB
/- contracts: what the cursor reads: a number, what is behind -/
namespace Go.Proofs.Yteckglnfkgfefaa
open Go.RowKit Cod
set_option maxRecDepth 40000
set_option maxHeartbeats 1000000 in
/-- what is behind -/
theorem rest_anyCd (w : World) (g : Nat) (a : Option Addr) (len cap : Nat) (l : List Nat) (p : Nat) (h : Cur w g a len cap l p) (hr : len ≤ 140737488355328) :
    Calls Try.prog 92 #[.pointer (some ⟨g, 0, none⟩)] w fun e w' => ∃ q, e = .returned (.slice (some ⟨q, 0, none⟩) (len - p) (len - p)) ∧ w.heap.size ≤ q ∧ Row w' q (len - p) (len - p) (l.drop p) ∧ w.grownBy w' (some g) := by
  have hle := h.le
  have hlen := h.isb.1
  have c0 := h.c0
  have c1 := h.c1
  have HT := hide (take_any w.drew g a len cap l p (len - p) (h.drewN 1) (by omega) (by omega))
  have et : (l.drop p).take (len - p) = l.drop p := List.take_of_length_le (by simp; omega)
  rw [et] at HT
  have hw : IntKind.i64.wrap ((len : Int) - (p : Int)) = ((len - p : Nat) : Int) := by
    rw [IntKind.wrap_i64]; omega
  clear et hlen
  have H := hide h
  clear h
  generalize len - p = m at *
  go_enter Try.func92, Try.ntmps92
  go_wp2
  go_region_with (go_at_call 98; refine HT.out.mono ?_; rintro e w' ⟨q, rfl, hq, hrow, hcur, hgr⟩)
  all_goals
    go_wp2
    go_ret
    exact ⟨q, rfl, hq, hrow, ⟨hgr.os, hgr.tape, hgr.output, hgr.size, hgr.block⟩⟩
theorem and_127 (x : Nat) (h : x < 256) : bits .and .u8 (x : Int) 127 = ((x % 128 : Nat) : Int) := by
  have h := u8_and_nat x 127 h (by decide)
  rw [nat_mask7] at h
  exact h
theorem drop_cons (l : List Nat) (p : Nat) (h : p < l.length) : l.drop p = l.getD p 0 :: l.drop (p + 1) := by
  rw [List.drop_eq_getElem_cons h, List.getD_eq_getElem?_getD, List.getElem?_eq_getElem h]; rfl
theorem pow7 (i : Nat) : (2 : Int) ^ (7 * i) = ((128 ^ i : Nat) : Int) := by
  have : (2 : Nat) ^ (7 * i) = 128 ^ i := by rw [Nat.pow_mul]
  rw [← this]; simp
theorem num_fit (i acc q : Nat) (hi : i ≤ 9) (hq : q < 128) (ha : acc < 128 ^ i) (hn : ¬ (i = 9 ∧ 1 < q)) :
    ∃ T A : Nat, T = q * 128 ^ i ∧ A = acc + q * 128 ^ i ∧ IntKind.u64.wrap ((q : Int) * 2 ^ (7 * i)) = (T : Int) ∧ (T : Int) / 2 ^ (7 * i) = (q : Int) ∧ bits .or .u64 (acc : Int) (T : Int) = (A : Int) ∧ A < 128 ^ (i + 1) ∧ A < 18446744073709551616 := by
  obtain ⟨r, hr0, hr, hr1, hr2⟩ := pow_split i hi
  have hqr : q < r := by
    by_cases e : i = 9
    · have := hr2 e; omega
    · have := hr1 (by omega); omega
  have hT : q * 128 ^ i < 18446744073709551616 := (lt_of_split hr).2 hqr
  have hacc : acc + q * 128 ^ i < 18446744073709551616 := by
    have h1 : (q + 1) * 128 ^ i ≤ 18446744073709551616 := by rw [← hr, Nat.mul_comm (128 ^ i) r]; exact Nat.mul_le_mul_right _ hqr
    rw [Nat.add_mul] at h1; omega
  have hpos : 0 < 128 ^ i := Nat.pow_pos (by decide)
  refine ⟨q * 128 ^ i, acc + q * 128 ^ i, rfl, rfl, ?_, ?_, ?_, ?_, hacc⟩
  · rw [pow7, IntKind.wrap_u64, ← Int.natCast_mul]; omega
  · rw [pow7, ← Int.natCast_ediv, Nat.mul_div_cancel _ hpos]
  · have hj := nat_join (7 * i) (q * 128 ^ i) acc (by rw [Nat.pow_mul]; exact Nat.mul_mod_left _ _) (by rw [Nat.pow_mul]; exact ha)
    rw [u64_or_nat acc (q * 128 ^ i) (by omega) hT, Nat.or_comm, hj, Nat.add_comm]
  · have h1 : (q + 1) * 128 ^ i ≤ 128 * 128 ^ i := Nat.mul_le_mul_right _ hq
    rw [Nat.pow_succ, Nat.mul_comm (128 ^ i) 128, ]
    rw [Nat.add_mul] at h1; omega
theorem num_over (q : Nat) (hq : q < 128) (h1 : 1 < q) :
    ∃ T U : Nat, IntKind.u64.wrap ((q : Int) * 9223372036854775808) = (T : Int) ∧ (T : Int) / 9223372036854775808 = (U : Int) ∧ ((U : Int) != (q : Int)) = true := by
  refine ⟨q % 2 * 9223372036854775808, q % 2, ?_, ?_, ?_⟩
  · rw [IntKind.wrap_u64]; omega
  · omega
  · simp; omega
set_option maxRecDepth 10000 in
set_option maxHeartbeats 2000000 in
theorem curNum_any (w : World) (g : Nat) (a : Option Addr) (len cap : Nat) (l : List Nat) (p : Nat) (h : Cur w g a len cap l p) :
    Calls Try.prog 91 #[.pointer (some ⟨g, 0, none⟩)] w fun e w' =>
      ((∃ n p', rdNum (l.drop p) = some (n, l.drop p') ∧ n < 18446744073709551616 ∧ p' ≤ len ∧ e = .returned (.tuple #[.int .u64 (n : Nat), .bool true]) ∧ Cur w' g a len cap l p') ∨
       (rdNum (l.drop p) = none ∧ ∃ n p' : Nat, e = .returned (.tuple #[.int .u64 (n : Nat), .bool false]) ∧ Cur w' g a len cap l p')) ∧ w.grownBy w' (some g) := by
  go_enter Try.func91, Try.ntmps91
  go_wp2_with fail
  go_loopw [4, 5, 6, 7, 8] (fun n s _ _ _ wr => ∃ i acc : Nat, i ≤ 10 ∧ s = .int .i64 ((7 * i : Nat) : Int) ∧ n = .int .u64 acc ∧ Cur wr g a len cap l (p + i) ∧ Hid (rdNum (l.drop p) = rd i acc (l.drop (p + i))) ∧ Hid (acc < 128 ^ i) ∧ w.grownBy wr (some g)) (fun _ s _ _ _ _ => 70 - (intOf s).toNat)
  case atStart => exact ⟨0, 0, by omega, rfl, rfl, h, hide rfl, hide (by decide), World.grownBy.refl _ _⟩
  case round =>
    obtain ⟨i, acc, hi, rfl, rfl, hcur, HR, HA, hg⟩ := hrel
    clear h
    have hlen := hcur.isb.1
    have hxs := hcur.isb.2.2.2.1
    have hle := hcur.le
    by_cases h10 : i = 10
    · subst h10
      have HN : Hid (rdNum (l.drop p) = none) := hide (by rw [HR.out, rd_ten])
      go_wp2
      go_ret2
      exact ⟨.inr ⟨HN.out, 0, _, rfl, hcur⟩, hg⟩
    by_cases hend : p + i = len
    · have HN : Hid (rdNum (l.drop p) = none) := hide (by rw [HR.out, hend, List.drop_eq_nil_of_le (by omega), rd_nil])
      have hcur' : Cur wr g a len cap l len := hend ▸ hcur
      generalize hs : 7 * i = s at *
      have hs1 : s < 64 := by omega
      clear hs
      go_wp2_with fail
      refine (next_none wr g a len cap l hcur').mono ?_
      rintro e w2 ⟨rfl, hcur2, hg2⟩
      go_wp2
      go_ret2
      exact ⟨.inr ⟨HN.out, 0, _, rfl, hcur2⟩, grown_trans hg hg2⟩
    have hx := getD_lt l (p + i) hxs
    have hnx := next_some wr g a len cap l (p + i) hcur (by omega)
    have Hnx := hide hnx
    clear hnx
    have ha := and_127 _ hx
    have HD : Hid (l.drop (p + i) = l.getD (p + i) 0 :: l.drop (p + (i + 1))) := hide (drop_cons l (p + i) (by omega))
    generalize l.getD (p + i) 0 = x at *
    by_cases hov : i = 9 ∧ 1 < x % 128
    · obtain ⟨rfl, hov⟩ := hov
      have HN : Hid (rdNum (l.drop p) = none) := hide (by rw [HR.out, HD.out, rd, if_neg (by omega), if_pos ⟨rfl, hov⟩])
      generalize hq : x % 128 = q at *
      have hq1 : q < 128 := by omega
      obtain ⟨T, U, e1, e2, e3⟩ := num_over q hq1 hov
      clear hq
      go_wp2_with fail
      refine Hnx.out.mono ?_
      rintro e w2 ⟨rfl, hcur2, hg2⟩
      go_wp2
      go_ret2
      exact ⟨.inr ⟨HN.out, 0, _, rfl, hcur2⟩, grown_trans hg hg2⟩
    obtain ⟨T, A, hT, hA2, e1, e2, e3, hA3, HA4⟩ := num_fit i acc (x % 128) (by omega) (by omega) HA.out hov
    have HA3 := hide hA3
    have HR2 : Hid (rdNum (l.drop p) = if x < 128 then (if x = 0 ∧ 0 < i then none else some (A, l.drop (p + (i + 1)))) else rd (i + 1) A (l.drop (p + (i + 1)))) := hide (by
      rw [HR.out, HD.out, rd, if_neg (by omega), if_neg hov, hA2])
    clear HR HD HA hov hA2 hT hA3
    generalize hq : x % 128 = q at *
    have HQ := hide hq
    have hq1 : q < 128 := by omega
    clear hq
    generalize hs : 7 * i = s at *
    have HS := hide hs
    have hs1 : s < 64 := by omega
    clear hs
    by_cases hx8 : x < 128
    · have d1 : decide ((x : Int) < 128) = true := by simp; omega
      by_cases hx0 : x = 0
      · have d2 : decide ((0 : Int) < (x : Int)) = false := by simp; omega
        have d3 : decide (0 < x) = false := by simp; omega
        by_cases hi0 : i = 0
        · have HN : Hid (rdNum (l.drop p) = some (A, l.drop (p + (i + 1)))) := hide (by rw [HR2.out, if_pos hx8, if_neg (by omega)])
          have d4 : ((s : Int) == 0) = true := by have := HS.out; simp; omega
          have HX0 := hide hx0
          clear hx0 hi0
          go_wp2_with fail
          refine Hnx.out.mono ?_
          rintro e w2 ⟨rfl, hcur2, hg2⟩
          go_wp2
          go_ret2
          exact ⟨.inl ⟨A, p + (i + 1), HN.out, HA4, hcur2.le, rfl, hcur2⟩, grown_trans hg hg2⟩
        · have HN : Hid (rdNum (l.drop p) = none) := hide (by rw [HR2.out, if_pos hx8, if_pos ⟨hx0, by omega⟩])
          have d4 : ((s : Int) == 0) = false := by have := HS.out; simp; omega
          have HX0 := hide hx0
          clear hx0 hi0
          go_wp2_with fail
          refine Hnx.out.mono ?_
          rintro e w2 ⟨rfl, hcur2, hg2⟩
          go_wp2
          go_ret2
          exact ⟨.inr ⟨HN.out, A, _, rfl, hcur2⟩, grown_trans hg hg2⟩
      · have HN : Hid (rdNum (l.drop p) = some (A, l.drop (p + (i + 1)))) := hide (by rw [HR2.out, if_pos hx8, if_neg (by omega)])
        have d2 : decide ((0 : Int) < (x : Int)) = true := by simp; omega
        have d3 : decide (0 < x) = true := by simp; omega
        go_wp2_with fail
        refine Hnx.out.mono ?_
        rintro e w2 ⟨rfl, hcur2, hg2⟩
        go_wp2
        go_ret2
        exact ⟨.inl ⟨A, p + (i + 1), HN.out, HA4, hcur2.le, rfl, hcur2⟩, grown_trans hg hg2⟩
    · have d1 : decide ((x : Int) < 128) = false := by simp; omega
      have HN : Hid (rdNum (l.drop p) = rd (i + 1) A (l.drop (p + (i + 1)))) := hide (by rw [HR2.out, if_neg hx8])
      go_wp2_with fail
      refine Hnx.out.mono ?_
      rintro e w2 ⟨rfl, hcur2, hg2⟩
      go_wp2
      go_roundw
      case rel => exact ⟨i + 1, A, by omega, by have := HS.out; go_num, rfl, hcur2, HN, HA3, grown_trans hg hg2⟩
      case measure => simp [intOf]; omega
end Go.Proofs.Yteckglnfkgfefaa
/- contracts: ReadNum, ReadInt, ReadText -/
namespace Go.Proofs.Yteckglnfkgfefaa
open Go.RowKit Cod
set_option maxRecDepth 40000
/-- a fresh cursor over an argument -/
theorem Cur.new {w : World} {a : Option Addr} {len cap : Nat} {l : List Nat} (h : IsB w a len cap l) : Cur (w.alloc (.cells #[.slice a len cap, .int .i64 0] 131)) w.heap.size a len cap l 0 := by
  have hn := heap_alloc_new w (.cells #[.slice a len cap, .int .i64 0] 131)
  refine ⟨?_, ?_, ?_, h.below ((Below.refl _ _).alloc (Nat.le_refl _) _), ?_, Nat.zero_le _⟩
  · rw [World.cell?_alloc_new]; rfl
  · rw [World.cell?_alloc_new]; rfl
  · unfold World.frozen?; rw [hn]; rfl
  · intro b off hb hlen
    rcases h.2.2.2.2 with ⟨h0, _⟩ | ⟨b', off', hb', hlt, _⟩
    · omega
    · rw [hb] at hb'; cases hb'; omega
theorem below_of_grown {w w' : World} {o : Obj} (hg : (w.alloc o).grownBy w' (some w.heap.size)) : Below w.heap.size w w' :=
  ⟨hg.os, hg.tape, hg.output, by have := hg.size; simp at this; omega, fun k hk => (hg.block k (by simp; omega) (by simp; omega)).trans (Below.heap_alloc _ _ _ hk)⟩
/-- codec.ReadNum -/
theorem readNum_any (a : Option Addr) (len cap : Nat) (l : List Nat) (w : World) (h : IsB w a len cap l) (hr : len ≤ 140737488355328) :
    Calls Try.prog 83 #[.slice a len cap] w fun e w' =>
      ((∃ n p' q, rdNum l = some (n, l.drop p') ∧ n < 18446744073709551616 ∧ p' ≤ len ∧ e = .returned (.tuple #[.int .u64 (n : Nat), .slice (some ⟨q, 0, none⟩) (len - p') (len - p'), .int .i64 0]) ∧ w.heap.size ≤ q ∧ Row w' q (len - p') (len - p') (l.drop p')) ∨
       (rdNum l = none ∧ e = .returned (.tuple #[.int .u64 0, .slice none 0 0, .int .i64 6]))) ∧ Below w.heap.size w w' := by
  have hc := curNum_any _ _ _ _ _ _ _ (Cur.new h)
  rw [List.drop_zero] at hc
  have hc := hide hc
  go_enter Try.func83, Try.ntmps83
  go_wp2_with fail
  refine hc.out.mono ?_
  rintro e w2 ⟨(⟨n, p', hn, hn2, hp, rfl, hcur⟩ | ⟨hn, n, p', rfl, hcur⟩), hg⟩
  · have HN := hide hn
    clear hn
    go_wp2_with fail
    refine (rest_anyCd w2 _ a len cap l p' hcur hr).mono ?_
    rintro e w3 ⟨q, rfl, hq, hrow, hg3⟩
    go_wp2
    go_ret3
    exact ⟨.inl ⟨n, p', q, HN.out, hn2, hp, rfl, by have := hg.size; simp at this; omega, hrow⟩, below_of_grown (grown_trans hg hg3)⟩
  · have HN := hide hn
    clear hn
    go_wp2
    go_ret3
    exact ⟨.inr ⟨HN.out, rfl⟩, below_of_grown hg⟩
/-- a number read as a whole one -/
def zag (n : Nat) : Int := if n % 2 = 1 then -1 - (n / 2 : Nat) else (n / 2 : Nat)
end Go.Proofs.Yteckglnfkgfefaa

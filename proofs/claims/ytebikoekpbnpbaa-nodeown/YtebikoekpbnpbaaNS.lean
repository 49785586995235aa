/- putNum, putText -/
import Derived.Test.YtebikoekpbnpbaaNN
import Derived.RangeFuncBox
namespace Go.Proofs.Ytebikoekpbnpbaa
open Go.RowKit Cod
set_option maxRecDepth 100000
set_option linter.unusedVariables false
set_option linter.unusedSimpArgs false
theorem own_below {w w1 : World} {base e size n : Nat} {v : Value} {xs : List Value} (h : w.ownsRow base e size v n xs) (hb : Below w.heap.size w w1) : w1.ownsRow base e size v n xs := by
  have hlt := h.lt
  obtain ⟨h1, h2⟩ := h
  refine ⟨h1, h2.imp id ?_⟩
  rintro ⟨g, cap, cur, rfl, hr⟩
  have hg := (hlt g rfl).2
  refine ⟨g, cap, cur, rfl, ?_⟩
  rw [hb.block g hg]
  exact hr
set_option maxHeartbeats 1000000 in
theorem nNum_any (v : Value) (base n k : Nat) (l : List Nat) (w : World) (h : w.ownsRow base 5 1 v n (bv l)) (hb : base ≤ w.heap.size) (hn : n ≤ 1000000) (hk : k ≤ 9223372036854775807) :
    Calls Try.prog 88 #[v, .int .i64 (k : Nat)] w fun e w' => ∃ v', e = .returned v' ∧ w'.ownsRow base 5 1 v' (n + nLen k) (bv (l ++ num k)) ∧ Below base w w' := by
  obtain ⟨i0, hi, hz0, hz1, hz2⟩ := info_parts Try.info5
  have HN := hide (num_any none 0 0 k [] w (isB_nil w) (by omega) (by omega))
  have HO := hide h
  have hw1 : IntKind.u64.wrap (k : Int) = (k : Int) := by rw [IntKind.wrap_u64]; omega
  have HL : Hid (nLen k ≤ 10) := hide (nLen_le (by omega))
  have HP : Hid (1 ≤ nLen k) := hide (nLen_pos k)
  clear h
  go_enter Try.func88, Try.ntmps88
  go_wp2_with fail
  refine HN.out.mono ?_
  rintro e w1 ⟨v1, rfl, ho1, hb1⟩
  rw [Nat.zero_add, List.nil_append] at ho1
  have hl := HL.out
  have hp := HP.out
  unfold nLen at hl hp
  obtain ⟨m, hm⟩ : ∃ m, (num k).length = m + 1 := ⟨(num k).length - 1, by omega⟩
  rw [hm] at ho1
  have HM : Hid (nLen k = m + 1) := hide hm
  obtain ⟨g, cap, rfl, _⟩ := ownsRow_succ ho1
  have hown := own_below HO.out hb1
  have hsz := hb1.size
  go_wp2_with (at_builtin; refine wpList_append_own _ rfl _ _ 26 rfl base 5 i0 (.int .u8 0) 1 1 Try.underlying26 hi hz0 hz1 hz2 rfl (by decide) _ n _ rfl hown ⟨g, 0, none⟩ (m + 1) cap (bv (num k)) rfl (by rw [bv_length, hm, Nat.mul_one]) (ho1.cells rfl) (bv_one _) (by unfold maxLen; omega) (by omega) (by omega) ?_)
  intro v2 w2 ho2 hg2 _
  have hb2 : Below base w w2 := (hb1.mono hb).grown hg2 (by omega) (fun k hk => (hown.lt k hk).1)
  rw [← bv_append] at ho2
  have HO2 : Hid (w2.ownsRow base 5 1 v2 (n + nLen k) (bv (l ++ num k))) := hide (by rw [HM.out]; exact ho2)
  have HB2 := hide hb2
  clear hg2 hown ho1 ho2 hb2 hm
  go_wp2
  go_ret
  exact ⟨_, rfl, HO2.out, HB2.out⟩
set_option maxHeartbeats 1000000 in
theorem nText_any (v : Value) (base n : Nat) (l : List Nat) (xa : Option Addr) (xn xc : Nat) (s : List Nat) (w : World) (h : w.ownsRow base 5 1 v n (bv l)) (hb : base ≤ w.heap.size) (hn : n ≤ 1000000) (hs : IsB w xa xn xc s) (hx : xn ≤ 1024) :
    Calls Try.prog 89 #[v, .slice xa xn xc] w fun e w' => ∃ v', e = .returned v' ∧ w'.ownsRow base 5 1 v' (n + bSize s) (bv (l ++ (num s.length ++ s))) ∧ Below base w w' := by
  obtain ⟨i0, hi, hz0, hz1, hz2⟩ := info_parts Try.info5
  have hcv := conv_str hs
  have hss : (str s).size = s.length := str_size s
  have hsl := hs.1
  have hbl : bl (str s) = s := bl_str hs.2.2.2.1
  have HN := hide (text_any none 0 0 (str s) [] w (isB_nil w) (by omega))
  rw [hss, hbl] at HN
  have HO := hide h
  have HL : Hid ((num s.length).length + s.length ≤ 2000) := hide (by have := nLen_le (n := s.length) (by omega); unfold nLen at this; omega)
  have HP : Hid (1 ≤ (num s.length).length + s.length) := hide (by have := nLen_pos s.length; unfold nLen at this; omega)
  clear h hs hsl hbl hss
  go_enter Try.func89, Try.ntmps89
  go_wp2_with fail
  refine HN.out.mono ?_
  rintro e w1 ⟨v1, rfl, ho1, hb1⟩
  rw [Nat.zero_add, List.nil_append] at ho1
  have hl := HL.out
  have hp := HP.out
  obtain ⟨m, hm⟩ : ∃ m, (num s.length).length + s.length = m + 1 := ⟨(num s.length).length + s.length - 1, by omega⟩
  rw [hm] at ho1
  have HM : Hid (bSize s = m + 1) := hide hm
  obtain ⟨g, cap, rfl, _⟩ := ownsRow_succ ho1
  have hown := own_below HO.out hb1
  have hsz := hb1.size
  go_wp2_with (at_builtin; refine wpList_append_own _ rfl _ _ 26 rfl base 5 i0 (.int .u8 0) 1 1 Try.underlying26 hi hz0 hz1 hz2 rfl (by decide) _ n _ rfl hown ⟨g, 0, none⟩ (m + 1) cap (bv (num s.length ++ s)) rfl (by rw [bv_length, List.length_append, hm, Nat.mul_one]) (ho1.cells rfl) (bv_one _) (by unfold maxLen; omega) (by omega) (by omega) ?_)
  intro v2 w2 ho2 hg2 _
  have hb2 : Below base w w2 := (hb1.mono hb).grown hg2 (by omega) (fun k hk => (hown.lt k hk).1)
  rw [← bv_append] at ho2
  have HO2 : Hid (w2.ownsRow base 5 1 v2 (n + bSize s) (bv (l ++ (num s.length ++ s)))) := hide (by rw [HM.out]; exact ho2)
  have HB2 := hide hb2
  clear hg2 hown ho1 ho2 hb2 hm
  go_wp2
  go_ret
  exact ⟨_, rfl, HO2.out, HB2.out⟩
end Go.Proofs.Ytebikoekpbnpbaa

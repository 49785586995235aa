/- the document's sector -/
import Derived.Test.YteckglnfkgfefaaJnD
import Derived.ArgAppend
namespace Go.Proofs.Yteckglnfkgfefaa
open Go.RowKit
set_option maxRecDepth 40000
theorem own_low {w : World} {base base' : Nat} {v : Value} {n : Nat} {xs : List Value} (h : w.ownsRow base 5 1 v n xs) (hb : base' ≤ base) : w.ownsRow base' 5 1 v n xs := by
  refine ⟨h.1, h.2.imp id ?_⟩
  rintro ⟨g, cap, cur, e, h1, h2⟩
  exact ⟨g, cap, cur, e, Nat.le_trans hb h1, h2⟩
theorem secB_lt {l : List Nat} (hl : ∀ x ∈ l, x < 256) (s i n : Nat) : ∀ x ∈ secB l s i n, x < 256 := by
  intro x hx
  simp only [secB, List.mem_append] at hx
  rcases hx with ((((h | h) | h) | h) | h) | h
  · exact leB_lt _ _ x h
  · exact leB_lt _ _ x h
  · exact leB_lt _ _ x h
  · exact leB_lt _ _ x h
  · exact hl x h
  · rw [List.eq_of_mem_replicate h]; decide
set_option maxHeartbeats 4000000 in
theorem rsector_any (w : World) (a : Option Addr) (len cap : Nat) (l : List Nat) (h : IsB w a len cap l) (hl : len ≤ 4064) (s i n : Nat) (hs : s ≤ 4611686018427387904) (hi : i ≤ 4611686018427387904) (hn : n ≤ 4611686018427387904) :
    Calls Try.prog 38 #[.slice a len cap, .int .u64 (s : Nat), .int .i64 (i : Nat), .int .i64 (n : Nat)] w fun e w' => ∃ v, e = .returned v ∧ w'.ownsRow w.heap.size 5 1 v 4096 (bv (rsecL l s i n)) ∧ Below w.heap.size w w' := by
  have hw1 : IntKind.u64.wrap ((s : Int) + (i : Int)) = ((s + i : Nat) : Int) := by rw [IntKind.wrap_u64]; omega
  have hwl : IntKind.u64.wrap (len : Int) = (len : Int) := by rw [IntKind.wrap_u64]; omega
  have hcv : (convert 34 34 (.slice (some ⟨w.heap.size, 0, none⟩) 4 4)).run Try.prog (w.alloc (.cells #[.int .u8 76, .int .u8 68, .int .u8 78, .int .u8 71] 5)) = .ok (.slice (some ⟨w.heap.size, 0, none⟩) 4 4) (w.alloc (.cells #[.int .u8 76, .int .u8 68, .int .u8 78, .int .u8 71] 5 (4, 5))) := Lib.run_convert_bytes_const w 34 5 _ 4 4 Try.underlying34 Try.underlying5
  have hM : IsB (w.alloc (.cells #[.int .u8 76, .int .u8 68, .int .u8 78, .int .u8 71] 5 (4, 5))) (some ⟨w.heap.size, 0, none⟩) 4 4 markL := isB_lit w markL (by decide) (by decide) (4, 5)
  have hB0 : Below w.heap.size w (w.alloc (.cells #[.int .u8 76, .int .u8 68, .int .u8 78, .int .u8 71] 5 (4, 5))) := (Below.refl _ w).alloc (Nat.le_refl _) _
  generalize w.alloc (.cells #[.int .u8 76, .int .u8 68, .int .u8 78, .int .u8 71] 5 (4, 5)) = W0 at *
  have HM := hide hM
  have HB0 := hide hB0
  have H := hide h
  have HL := hide hl
  have HW : Hid (w.heap.size ≤ W0.heap.size) := hide hB0.size
  clear hM hB0 h hl
  go_enter Try.func38, Try.ntmps38
  go_wp2_with fail
  clear hcv
  refine (little_any (s + i) 8 (by omega) W0).mono ?_
  rintro e w1 ⟨v1, rfl, ho1, hb1⟩
  clear hw1
  have HO1 := hide ho1
  have HB1 := hide hb1
  clear ho1 hb1
  go_wp2_with fail
  refine (little_any s 8 (by omega) w1).mono ?_
  rintro e w2 ⟨v2, rfl, ho2, hb2⟩
  have hx2 := own_below HO1.out hb2
  obtain ⟨g2, c2, rfl, _, hI2⟩ := own_isB ho2 (leB_lt _ _) (by omega)
  have hb02 : Below W0.heap.size W0 w2 := HB1.out.trans (hb2.mono HB1.out.size)
  clear ho2 hb2 HO1 HB1
  go_wp2_with (at_builtin; refine wpList_clone rfl _ _ rfl W0.heap.size v1 8 (bv (leB (s + i) 8)) rfl hx2 _ 8 c2 (leB s 8) rfl hI2 (by omega) hb02.size W0.heap.size W0 hb02 (Nat.le_refl _) ?_)
  intro v3 w3 ho3 hb3
  rw [← bv_append] at ho3
  have HO3 := hide ho3
  have HB3 := hide hb3
  clear ho3 hb3 hx2 hI2 hb02
  go_wp2_with fail
  refine (little_any n 4 (by omega) w3).mono ?_
  rintro e w4 ⟨v4, rfl, ho4, hb4⟩
  have hx4 := own_below HO3.out hb4
  obtain ⟨g4, c4, rfl, _, hI4⟩ := own_isB ho4 (leB_lt _ _) (by omega)
  have hb04 : Below W0.heap.size W0 w4 := HB3.out.trans (hb4.mono HB3.out.size)
  clear ho4 hb4 HO3 HB3
  go_wp2_with (at_builtin; refine wpList_clone rfl _ _ rfl W0.heap.size v3 16 _ rfl hx4 _ 4 c4 (leB n 4) rfl hI4 (by omega) hb04.size W0.heap.size W0 hb04 (Nat.le_refl _) ?_)
  intro v5 w5 ho5 hb5
  rw [← bv_append] at ho5
  have HO5 := hide ho5
  have HB5 := hide hb5
  clear ho5 hb5 hx4 hI4 hb04
  go_wp2_with fail
  refine (little_any len 4 (by omega) w5).mono ?_
  rintro e w6 ⟨v6, rfl, ho6, hb6⟩
  clear hwl
  have hx6 := own_below HO5.out hb6
  obtain ⟨g6, c6, rfl, _, hI6⟩ := own_isB ho6 (leB_lt _ _) (by omega)
  have hb06 : Below W0.heap.size W0 w6 := HB5.out.trans (hb6.mono HB5.out.size)
  clear ho6 hb6 HO5 HB5
  go_wp2_with (at_builtin; refine wpList_clone rfl _ _ rfl W0.heap.size v5 20 _ rfl hx6 _ 4 c6 (leB len 4) rfl hI6 (by omega) hb06.size W0.heap.size W0 hb06 (Nat.le_refl _) ?_)
  intro v7 w7 ho7 hb7
  rw [← bv_append] at ho7
  have hI7 := H.out.below (HB0.out.trans (hb7.mono HW.out))
  clear hx6 hI6 hb06
  go_wp2_with (at_builtin; refine wpList_clone rfl _ _ rfl W0.heap.size v7 24 _ rfl ho7 a len cap l rfl hI7 (by have := HL.out; omega) hb7.size W0.heap.size W0 hb7 (Nat.le_refl _) ?_)
  intro v8 w8 ho8 hb8
  rw [← bv_append] at ho8
  clear ho7 hb7 hI7
  obtain ⟨z, hz⟩ : ∃ z : Nat, z = 4064 - len := ⟨_, rfl⟩
  obtain ⟨v9, w9, hr9, ho9, hb9⟩ := run_own_zeros_any w8 34 W0.heap.size (24 + len) z v8 _ ho8 (by have := HL.out; omega) (by omega) hb8.size
  have hb09 := hb8.trans hb9
  have hlen9 : 24 + len + z = 4088 := by have := HL.out; omega
  have hwz : wrap64 (4088 - (24 + (len : Int))) = (z : Int) := by rw [wr64 _ (by have := HL.out; omega) (by omega)]; omega
  rw [hlen9, ← bv_zeros, ← bv_append] at ho9
  have hbody : leB (s + i) 8 ++ (leB s 8 ++ (leB n 4 ++ leB len 4)) ++ l ++ List.replicate z 0 = secB l s i n := by simp [secB, H.out.1, hz]
  rw [hbody] at ho9
  have HR : Hid (rsecL l s i n = markL ++ leB (Crc.update 0 (markL ++ [0, 0, 0, 0] ++ secB l s i n)) 4 ++ secB l s i n) := hide rfl
  have HX : Hid (∀ x ∈ secB l s i n, x < 256) := hide (secB_lt H.out.2.2.2.1 s i n)
  generalize secB l s i n = body at *
  obtain ⟨g9, c9, rfl, _, hI9⟩ := own_isB ho9 HX.out (by omega)
  have HI9 := hide hI9
  have HB9 := hide hb09
  have HM9 := hide (HM.out.below hb09)
  obtain ⟨g8, c8, rfl, _, _⟩ := Row.of_owns ho8 (by omega)
  clear ho8 hb8 hb9 ho9 hb09 hlen9 hz hbody hI9 HM
  rw [← hwz] at hr9
  have Hwz := hide hwz
  clear hwz
  have hbA : Below w9.heap.size w9 (w9.alloc (.cells #[] 5)) := (Below.refl _ w9).alloc (Nat.le_refl _) _
  have hownA := owns_empty w9 w9.heap.size (Nat.le_refl _)
  have hIA := HM9.out.below hbA
  go_wp2_with (first | (at_builtin; refine Go.Lib.wpList_append_run _ rfl _ _ _ _ rfl _ _ rfl rfl _ _ hr9 ?_) | (at_builtin; refine wpList_clone rfl _ _ rfl w9.heap.size _ 0 [] rfl hownA _ 4 4 markL rfl hIA (by omega) (by simp) w9.heap.size w9 hbA (Nat.le_refl _) ?_))
  clear hr9 Hwz
  intro v10 w10 ho10 hb10
  clear hbA hownA hIA
  have hbB : Below w9.heap.size w9 (w10.alloc (.cells #[.int .u8 0, .int .u8 0, .int .u8 0, .int .u8 0] 5)) := hb10.alloc hb10.size _
  have hownB : (w10.alloc (.cells #[.int .u8 0, .int .u8 0, .int .u8 0, .int .u8 0] 5)).ownsRow w9.heap.size 5 1 v10 4 (bv markL) := ho10.alloc _
  have hIB : IsB (w10.alloc (.cells #[.int .u8 0, .int .u8 0, .int .u8 0, .int .u8 0] 5)) (some ⟨w10.heap.size, 0, none⟩) 4 4 [0, 0, 0, 0] := isB_lit w10 [0, 0, 0, 0] (by decide) (by decide) (0, 0)
  clear ho10 hb10
  go_wp2_with (at_builtin; refine wpList_clone rfl _ _ rfl w9.heap.size v10 4 _ rfl hownB _ 4 4 [0, 0, 0, 0] rfl hIB (by omega) hbB.size w9.heap.size w9 hbB (Nat.le_refl _) ?_)
  intro v11 w11 ho11 hb11
  rw [← bv_append] at ho11
  have hIC := HI9.out.below hb11
  clear hbB hownB hIB
  go_wp2_with (at_builtin; refine wpList_clone rfl _ _ rfl w9.heap.size v11 8 _ rfl ho11 _ 4088 c9 body rfl hIC (by omega) hb11.size w9.heap.size w9 hb11 (Nat.le_refl _) ?_)
  intro v12 w12 ho12 hb12
  rw [← bv_append] at ho12
  clear ho11 hb11 hIC
  have HXX : ∀ x ∈ markL ++ [0, 0, 0, 0] ++ body, x < 256 := by
    intro x hx
    rcases List.mem_append.1 hx with h | h
    · exact (show ∀ x ∈ markL ++ [0, 0, 0, 0], x < 256 by decide) x h
    · exact HX.out x h
  have hcl := update_lt 0 (markL ++ [0, 0, 0, 0] ++ body) (by decide) HXX
  obtain ⟨g12, c12, rfl, _, hI12⟩ := own_isB ho12 HXX (by omega)
  have C63 := hide (refOf_any _ _ _ _ w12 hI12)
  have HB12 := hide hb12
  clear ho12 hb12 HXX hI12
  generalize Crc.update 0 (markL ++ [0, 0, 0, 0] ++ body) = c at *
  have hwc : IntKind.u64.wrap (c : Int) = (c : Int) := by rw [IntKind.wrap_u64]; omega
  clear hcl
  go_wp2_with fail
  refine C63.out.mono ?_
  rintro e w' ⟨rfl, hw'⟩
  rw [hw']
  clear hw' C63
  go_wp2_with fail
  refine (little_any c 4 (by omega) w12).mono ?_
  rintro e w13 ⟨v13, rfl, ho13, hb13⟩
  clear hwc
  obtain ⟨i0, hi0, hz0, hz1, hz2⟩ := info_parts Try.info5
  obtain ⟨g13, c13, rfl, _, hI13⟩ := own_isB ho13 (leB_lt _ _) (by omega)
  have hb913 : Below w9.heap.size w9 w13 := HB12.out.trans (hb13.mono HB12.out.size)
  have hIm := HM9.out.below hb913
  have hIv := HI9.out.below hb913
  have HBT : Hid (Below w.heap.size w w13) := hide (HB0.out.trans ((HB9.out.mono HW.out).trans (hb913.mono (Nat.le_trans HW.out HB9.out.size))))
  clear ho13 hb13 hb913 HM9 HI9 HB9 HB12 HB0
  have HIv := hide hIv
  clear hIv
  go_wp2_with (at_builtin; refine wpList_append_grows _ rfl _ _ 34 rfl 5 i0 (.int .u8 0) 1 1 Try.underlying34 hi0 hz0 hz1 hz2 rfl (by decide) (some ⟨w.heap.size, 0, none⟩) 4 4 (bv markL) rfl (by intro h; cases h) rfl (fun b hb => by cases hb; exact hIm.src) ⟨g13, 0, none⟩ 4 c13 (bv (leB c 4)) rfl (by rw [bv_length, leB_length]) hI13.src (bv_one _) (by omega) (by unfold maxLen; omega) (by omega) ?_)
  intro v14 w14 ho14 hg14
  have hb14 : Below w13.heap.size w13 w14 := ⟨hg14.os, hg14.tape, hg14.output, hg14.size, fun k hk => hg14.block k hk (by simp)⟩
  rw [← bv_append] at ho14
  have hIv := HIv.out.below hb14
  clear hg14 hIm hI13 HIv hi0 hz0 hz1 hz2
  go_wp2_with (at_builtin; refine wpList_clone rfl _ _ rfl w13.heap.size v14 8 _ rfl ho14 _ 4088 c9 body rfl hIv (by omega) hb14.size w13.heap.size w13 hb14 (Nat.le_refl _) ?_)
  intro v15 w15 ho15 hb15
  rw [← bv_append, ← HR.out] at ho15
  have HO15 := hide (own_low ho15 HBT.out.size)
  have HB15 := hide (HBT.out.trans (hb15.mono HBT.out.size))
  clear ho14 hb14 hIv ho15 hb15
  go_wp2
  go_ret
  exact ⟨_, rfl, HO15.out, HB15.out⟩
end Go.Proofs.Yteckglnfkgfefaa

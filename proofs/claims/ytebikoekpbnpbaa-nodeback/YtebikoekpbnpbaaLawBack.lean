/- NodeBack: the walk -/
import Derived.Test.YtebikoekpbnpbaaRI
import Derived.Test.YtebikoekpbnpbaaLawFound
namespace Go.Proofs.Ytebikoekpbnpbaa
open Go.RowKit Cod
set_option maxRecDepth 100000
set_option linter.unusedVariables false
set_option linter.unusedSimpArgs false
/-- a page in a block of its own -/
structure BkP (W : World) (g : Nat) (v : Pv) (lf : Bool) (p : Pg) : Prop where
  x : BlkG W g lf v
  is : IsG W v p
theorem BkP.below {W W' : World} {g : Nat} {v : Pv} {lf : Bool} {p : Pg} (h : BkP W g v lf p) (hb : Below W.heap.size W W') : BkP W' g v lf p := ⟨(hb.block _ (heap_ltN h.x)).trans h.x, h.is.below hb⟩
theorem BkP.new {w : World} {v : Pv} {lf : Bool} {p : Pg} (h : IsG w v p) : BkP (w.alloc (.cells (pgc lf v) 25)) w.heap.size v lf p := ⟨heap_alloc_new w _, h.below ((Below.refl _ w).alloc (Nat.le_refl _) _)⟩
theorem same_atB {v v' : Pv} {p : Pg} {lf : Bool} (hl : lf = p.leaf) (W : World) (h : IsG W v p) (h' : IsG W v' p) :
    Calls Try.prog 22 #[.agg (pgc lf v), .agg (pgc lf v')] W fun e w' => e = .returned (.bool true) ∧ Below W.heap.size W w' := by
  subst hl
  exact same_eq v v' p W h h'
set_option maxHeartbeats 8000000 in
theorem back_no (v : Pv) (p : Pg) (xa : Option Addr) (xn xc : Nat) (lb : List Nat) (A : Int) (O : Int) (w : World) (h : IsG w v p) (hc : FewP v) (hk : IsB w xa xn xc lb) (hA : i64B A) (hO : 0 ≤ O ∧ O < 256) (hE : ¬ checkE p = 0) :
    Calls Try.prog 6 #[.agg (pgc p.leaf v), .slice xa xn xc, .int .i64 A, .int .u8 O] w fun e w' => e = .returned (.bool true) ∧ Below w.heap.size w w' := by
  obtain ⟨V0, hV0⟩ : ∃ V0, V0 = w.alloc (.cells (pgc p.leaf v) 25) := ⟨_, rfl⟩
  have HB0 : Hid (Below w.heap.size w V0) := hide (by rw [hV0]; exact belowN _ _)
  have HX0 : Hid (BkP V0 w.heap.size v p.leaf p) := hide (by rw [hV0]; exact BkP.new h)
  have HK := hide hk
  have HFW := hide hc
  have HE := hide hE
  have HOO := hide hO
  clear h hc hk hE hA hO
  obtain ⟨lf, hlf⟩ : ∃ lf, lf = p.leaf := ⟨_, rfl⟩
  rw [← hlf] at HX0 hV0 ⊢
  have HLF := hide hlf
  clear hlf
  go_enter Try.func6, Try.ntmps6
  go_wp2_with fail
  rw [← hV0]
  clear hV0
  refine (lives_any V0).mono ?_
  rintro e w1 ⟨rfl, hb1⟩
  have HB1 : Hid (Below w.heap.size w w1) := hide (HB0.out.trans (hb1.mono HB0.out.size))
  have HX1 := hide (HX0.out.below hb1)
  clear hb1 HX0 HB0
  obtain ⟨q0, q1, q2, q3⟩ := BlkG.cells HX1.out.x
  have HEN := hide (enc_no v p w1 HX1.out.is HE.out HFW.out)
  rw [← HLF.out] at HEN
  generalize checkE p = E at *
  have hc1 : (E == (0 : Int)) = false := by simpa using HE.out
  have hc2 : (E != (0 : Int)) = true := by simpa using HE.out
  go_wp2_with fail
  refine HEN.out.mono ?_
  rintro e w2 ⟨rfl, hb2⟩
  have HB2 : Hid (Below w.heap.size w w2) := hide (HB1.out.trans (hb2.mono HB1.out.size))
  clear hb2 HEN q0 q1 q2 q3 HX1
  go_wp2_with fail
  have HD9 := hide (decode15 xa xn xc lb w2 (HK.out.below HB2.out))
  refine HD9.out.mono ?_
  rintro e w20 ⟨v20, q20, er, rfl, hG20, hF20, hd20, hb20⟩
  obtain ⟨G, hG⟩ : ∃ G, G = w20.heap.size := ⟨_, rfl⟩
  obtain ⟨l20, hl20⟩ : ∃ l, l = q20.leaf := ⟨_, rfl⟩
  rw [← hl20]
  obtain ⟨V20, hV20⟩ : ∃ V, V = w20.alloc (.cells (pgc l20 v20) 25) := ⟨_, rfl⟩
  have hbv : Below w20.heap.size w20 V20 := by rw [hV20]; exact belowN _ _
  have HB20 : Hid (Below w.heap.size w V20) := hide (HB2.out.trans ((hb20.trans (hbv.mono hb20.size)).mono HB2.out.size))
  have HX20 : Hid (BkP V20 G v20 l20 q20) := hide (by rw [hV20, hG]; exact BkP.new hG20)
  have HF20 := hide hF20
  have HL20 := hide hl20
  clear hbv hb20 hG20 hF20 hl20 HD9
  obtain ⟨p0, p1, p2, p3⟩ := BlkG.cells HX20.out.x
  rw [hV20, hG] at p0 p1 p2 p3
  rcases hd20 with ⟨rfl, hc20, he20, _⟩ | ⟨rfl, hz20, _⟩
  · have HE20 := hide he20
    have HEN := hide (enc_yes v20 q20 V20 HX20.out.is hc20 HF20.out)
    have HEL := hide (encP_lt HX20.out.is)
    rw [← HL20.out] at HEN
    clear hc20 he20
    go_wp2_with fail
    try rw [← hV20]
    clear hV20 p0 p1 p2 p3
    refine HEN.out.mono ?_
    rintro e w21 ⟨g21, rfl, ho21, hb21⟩
    obtain ⟨a21, c21, e21, hI21⟩ := owns_isB ho21 HEL.out
    cases e21
    have HB21 : Hid (Below w.heap.size w w21) := hide (HB20.out.trans (hb21.mono HB20.out.size))
    rw [HE20.out] at hI21
    have hcv1 : (convert 26 9 (.slice (some ⟨g21, 0, none⟩) 4096 4096)).run Try.prog w21 = .ok (.string (str lb)) w21 := conv_str hI21
    have hcv2 : (convert 26 9 (.slice xa xn xc)).run Try.prog w21 = .ok (.string (str lb)) w21 := conv_str (HK.out.below HB21.out)
    have hst : ((str lb).toList == (str lb).toList) = true := by simp
    clear hI21 ho21 hb21 HEN
    go_wp2
    go_ret
    exact ⟨rfl, HB21.out⟩
  · have HSM : Hid (Calls Try.prog 22 #[.agg (pgc l20 v20), .agg #[.bool false, .slice none 0 0, .slice none 0 0, .slice none 0 0]] V20 fun e w' => e = .returned (.bool true) ∧ Below V20.heap.size V20 w') := hide (by
      have h1 := HX20.out.is
      have h2 := HL20.out
      rw [hz20] at h1 h2
      rw [h2]
      exact same_eq v20 Pv0 Pg0 V20 h1 (isG_0 _))
    go_wp2_with fail
    try rw [← hV20]
    clear hV20 p0 p1 p2 p3
    refine HSM.out.mono ?_
    rintro e w21 ⟨rfl, hb21⟩
    have HB21 : Hid (Below w.heap.size w w21) := hide (HB20.out.trans (hb21.mono HB20.out.size))
    clear hb21 HSM
    go_wp2
    go_ret
    exact ⟨rfl, HB21.out⟩
set_option maxHeartbeats 8000000 in
theorem back_yes (v : Pv) (p : Pg) (xa : Option Addr) (xn xc : Nat) (lb : List Nat) (A : Int) (O : Int) (w : World) (h : IsG w v p) (hc : FewP v) (hk : IsB w xa xn xc lb) (hA : i64B A) (hO : 0 ≤ O ∧ O < 256) (hE : checkE p = 0) :
    Calls Try.prog 6 #[.agg (pgc p.leaf v), .slice xa xn xc, .int .i64 A, .int .u8 O] w fun e w' => e = .returned (.bool true) ∧ Below w.heap.size w w' := by
  obtain ⟨V0, hV0⟩ : ∃ V0, V0 = w.alloc (.cells (pgc p.leaf v) 25) := ⟨_, rfl⟩
  have HB0 : Hid (Below w.heap.size w V0) := hide (by rw [hV0]; exact belowN _ _)
  have HX0 : Hid (BkP V0 w.heap.size v p.leaf p) := hide (by rw [hV0]; exact BkP.new h)
  have HK := hide hk
  have HFW := hide hc
  have HE := hide hE
  have HOO := hide hO
  clear h hc hk hE hA hO
  obtain ⟨lf, hlf⟩ : ∃ lf, lf = p.leaf := ⟨_, rfl⟩
  rw [← hlf] at HX0 hV0 ⊢
  have HLF := hide hlf
  clear hlf
  go_enter Try.func6, Try.ntmps6
  go_wp2_with fail
  rw [← hV0]
  clear hV0
  refine (lives_any V0).mono ?_
  rintro e w1 ⟨rfl, hb1⟩
  have HB1 : Hid (Below w.heap.size w w1) := hide (HB0.out.trans (hb1.mono HB0.out.size))
  have HX1 := hide (HX0.out.below hb1)
  clear hb1 HX0 HB0
  obtain ⟨q0, q1, q2, q3⟩ := BlkG.cells HX1.out.x
  have HEN := hide (enc_yes v p w1 HX1.out.is HE.out HFW.out)
  have HEL := hide (encP_lt HX1.out.is)
  rw [← HLF.out] at HEN
  go_wp2_with fail
  refine HEN.out.mono ?_
  rintro e w2 ⟨g, rfl, ho2, hb2⟩
  have HEN2 : Hid ((encP p).length = 4096) := hide (encP_len HE.out)
  obtain ⟨g', c', e2, hgb, hrow⟩ := Row.of_owns ho2 (by omega)
  cases e2
  have HRW := hide hrow
  have HGB : Hid (w.heap.size ≤ g) := hide (by have := HB1.out.size; omega)
  have HB2 : Hid (Below w.heap.size w w2) := hide (HB1.out.trans (hb2.mono HB1.out.size))
  have HX2 := hide (HX1.out.below hb2)
  have HD2 := hide (decode15 (some ⟨g, 0, none⟩) 4096 4096 (encP p) w2 (hrow.isB HEL.out))
  clear hb2 ho2 hgb hrow HEN HX1 HB1 q0 q1 q2 q3
  go_wp2_with fail
  refine HD2.out.mono ?_
  rintro e w3 ⟨v3, q3, er, rfl, hG3, hF3, hd3, hb3⟩
  obtain ⟨rfl, rfl⟩ := dec_self HE.out hd3
  obtain ⟨P, hP⟩ : ∃ P, P = w3.heap.size := ⟨_, rfl⟩
  obtain ⟨V3, hV3⟩ : ∃ V, V = w3.alloc (.cells (pgc lf v3) 25) := ⟨_, rfl⟩
  have hbv : Below w3.heap.size w3 V3 := by rw [hV3]; exact belowN _ _
  have hb23 : Below w2.heap.size w2 V3 := hb3.trans (hbv.mono hb3.size)
  have HB3 : Hid (Below w.heap.size w V3) := hide (HB2.out.trans (hb23.mono HB2.out.size))
  have HX3 := hide (HX2.out.below hb23)
  have HY3 : Hid (BkP V3 P v3 lf q3) := hide (by rw [hV3, hP]; exact BkP.new hG3)
  have HR3 : Hid (Row V3 g 4096 4096 (encP q3)) := hide (HRW.out.below hb23 HRW.out.lt)
  have HSM := hide (same_atB HLF.out V3 HX3.out.is HY3.out.is)
  rw [← HLF.out]
  clear hbv hb23 hb3 hd3 hG3 hF3 HD2 HX2 HB2 HRW
  obtain ⟨q0, q1, q2, q3'⟩ := BlkG.cells HX3.out.x
  obtain ⟨r0, r1, r2, r3⟩ := BlkG.cells HY3.out.x
  rw [hV3] at q0 q1 q2 q3' r0 r1 r2 r3
  rw [hP] at r0 r1 r2 r3
  go_wp2_with fail
  try rw [← hV3]
  clear hV3 q0 q1 q2 q3' r0 r1 r2 r3
  refine HSM.out.mono ?_
  rintro e w4 ⟨rfl, hb4⟩
  have HB4 : Hid (Below w.heap.size w w4) := hide (HB3.out.trans (hb4.mono HB3.out.size))
  have HR4 : Hid (Row w4 g 4096 4096 (encP q3)) := hide (HR3.out.below hb4 HR3.out.lt)
  clear hb4 HSM HX3 HY3 HB3 HR3
  by_cases hA0 : 0 ≤ A
  case neg =>
    have hd1 : decide (A ≥ 0) = false := decide_eq_false hA0
    have hd2 : decide (0 ≤ A) = false := decide_eq_false hA0
    have hA1 : A < 0 := by omega
    clear hA0
    go_wp2_with fail
    have HD9 := hide (decode15 xa xn xc lb w4 (HK.out.below HB4.out))
    refine HD9.out.mono ?_
    rintro e w20 ⟨v20, q20, er, rfl, hG20, hF20, hd20, hb20⟩
    obtain ⟨G, hG⟩ : ∃ G, G = w20.heap.size := ⟨_, rfl⟩
    obtain ⟨l20, hl20⟩ : ∃ l, l = q20.leaf := ⟨_, rfl⟩
    rw [← hl20]
    obtain ⟨V20, hV20⟩ : ∃ V, V = w20.alloc (.cells (pgc l20 v20) 25) := ⟨_, rfl⟩
    have hbv : Below w20.heap.size w20 V20 := by rw [hV20]; exact belowN _ _
    have HB20 : Hid (Below w.heap.size w V20) := hide (HB4.out.trans ((hb20.trans (hbv.mono hb20.size)).mono HB4.out.size))
    have HX20 : Hid (BkP V20 G v20 l20 q20) := hide (by rw [hV20, hG]; exact BkP.new hG20)
    have HF20 := hide hF20
    have HL20 := hide hl20
    clear hbv hb20 hG20 hF20 hl20 HD9
    obtain ⟨p0, p1, p2, p3⟩ := BlkG.cells HX20.out.x
    rw [hV20, hG] at p0 p1 p2 p3
    rcases hd20 with ⟨rfl, hc20, he20, _⟩ | ⟨rfl, hz20, _⟩
    · have HE20 := hide he20
      have HEN := hide (enc_yes v20 q20 V20 HX20.out.is hc20 HF20.out)
      have HEL := hide (encP_lt HX20.out.is)
      rw [← HL20.out] at HEN
      clear hc20 he20
      go_wp2_with fail
      try rw [← hV20]
      clear hV20 p0 p1 p2 p3
      refine HEN.out.mono ?_
      rintro e w21 ⟨g21, rfl, ho21, hb21⟩
      obtain ⟨a21, c21, e21, hI21⟩ := owns_isB ho21 HEL.out
      cases e21
      have HB21 : Hid (Below w.heap.size w w21) := hide (HB20.out.trans (hb21.mono HB20.out.size))
      rw [HE20.out] at hI21
      have hcv1 : (convert 26 9 (.slice (some ⟨g21, 0, none⟩) 4096 4096)).run Try.prog w21 = .ok (.string (str lb)) w21 := conv_str hI21
      have hcv2 : (convert 26 9 (.slice xa xn xc)).run Try.prog w21 = .ok (.string (str lb)) w21 := conv_str (HK.out.below HB21.out)
      have hst : ((str lb).toList == (str lb).toList) = true := by simp
      clear hI21 ho21 hb21 HEN
      go_wp2
      go_ret
      exact ⟨rfl, HB21.out⟩
    · have HSM : Hid (Calls Try.prog 22 #[.agg (pgc l20 v20), .agg #[.bool false, .slice none 0 0, .slice none 0 0, .slice none 0 0]] V20 fun e w' => e = .returned (.bool true) ∧ Below V20.heap.size V20 w') := hide (by
        have h1 := HX20.out.is
        have h2 := HL20.out
        rw [hz20] at h1 h2
        rw [h2]
        exact same_eq v20 Pv0 Pg0 V20 h1 (isG_0 _))
      go_wp2_with fail
      try rw [← hV20]
      clear hV20 p0 p1 p2 p3
      refine HSM.out.mono ?_
      rintro e w21 ⟨rfl, hb21⟩
      have HB21 : Hid (Below w.heap.size w w21) := hide (HB20.out.trans (hb21.mono HB20.out.size))
      clear hb21 HSM
      go_wp2
      go_ret
      exact ⟨rfl, HB21.out⟩
  case pos =>
  by_cases hA4 : A < 4096
  case neg =>
    have hd1 : decide (A < 4096) = false := decide_eq_false hA4
    have hA5 : 4096 ≤ A := by omega
    go_wp2_with fail
    have HD9 := hide (decode15 xa xn xc lb w4 (HK.out.below HB4.out))
    refine HD9.out.mono ?_
    rintro e w20 ⟨v20, q20, er, rfl, hG20, hF20, hd20, hb20⟩
    obtain ⟨G, hG⟩ : ∃ G, G = w20.heap.size := ⟨_, rfl⟩
    obtain ⟨l20, hl20⟩ : ∃ l, l = q20.leaf := ⟨_, rfl⟩
    rw [← hl20]
    obtain ⟨V20, hV20⟩ : ∃ V, V = w20.alloc (.cells (pgc l20 v20) 25) := ⟨_, rfl⟩
    have hbv : Below w20.heap.size w20 V20 := by rw [hV20]; exact belowN _ _
    have HB20 : Hid (Below w.heap.size w V20) := hide (HB4.out.trans ((hb20.trans (hbv.mono hb20.size)).mono HB4.out.size))
    have HX20 : Hid (BkP V20 G v20 l20 q20) := hide (by rw [hV20, hG]; exact BkP.new hG20)
    have HF20 := hide hF20
    have HL20 := hide hl20
    clear hbv hb20 hG20 hF20 hl20 HD9
    obtain ⟨p0, p1, p2, p3⟩ := BlkG.cells HX20.out.x
    rw [hV20, hG] at p0 p1 p2 p3
    rcases hd20 with ⟨rfl, hc20, he20, _⟩ | ⟨rfl, hz20, _⟩
    · have HE20 := hide he20
      have HEN := hide (enc_yes v20 q20 V20 HX20.out.is hc20 HF20.out)
      have HEL := hide (encP_lt HX20.out.is)
      rw [← HL20.out] at HEN
      clear hc20 he20
      go_wp2_with fail
      try rw [← hV20]
      clear hV20 p0 p1 p2 p3
      refine HEN.out.mono ?_
      rintro e w21 ⟨g21, rfl, ho21, hb21⟩
      obtain ⟨a21, c21, e21, hI21⟩ := owns_isB ho21 HEL.out
      cases e21
      have HB21 : Hid (Below w.heap.size w w21) := hide (HB20.out.trans (hb21.mono HB20.out.size))
      rw [HE20.out] at hI21
      have hcv1 : (convert 26 9 (.slice (some ⟨g21, 0, none⟩) 4096 4096)).run Try.prog w21 = .ok (.string (str lb)) w21 := conv_str hI21
      have hcv2 : (convert 26 9 (.slice xa xn xc)).run Try.prog w21 = .ok (.string (str lb)) w21 := conv_str (HK.out.below HB21.out)
      have hst : ((str lb).toList == (str lb).toList) = true := by simp
      clear hI21 ho21 hb21 HEN
      go_wp2
      go_ret
      exact ⟨rfl, HB21.out⟩
    · have HSM : Hid (Calls Try.prog 22 #[.agg (pgc l20 v20), .agg #[.bool false, .slice none 0 0, .slice none 0 0, .slice none 0 0]] V20 fun e w' => e = .returned (.bool true) ∧ Below V20.heap.size V20 w') := hide (by
        have h1 := HX20.out.is
        have h2 := HL20.out
        rw [hz20] at h1 h2
        rw [h2]
        exact same_eq v20 Pv0 Pg0 V20 h1 (isG_0 _))
      go_wp2_with fail
      try rw [← hV20]
      clear hV20 p0 p1 p2 p3
      refine HSM.out.mono ?_
      rintro e w21 ⟨rfl, hb21⟩
      have HB21 : Hid (Below w.heap.size w w21) := hide (HB20.out.trans (hb21.mono HB20.out.size))
      clear hb21 HSM
      go_wp2
      go_ret
      exact ⟨rfl, HB21.out⟩
  case pos =>
  obtain ⟨N, rfl⟩ : ∃ N : Nat, A = (N : Int) := ⟨A.toNat, by omega⟩
  obtain ⟨U, rfl⟩ : ∃ U : Nat, O = (U : Int) := ⟨O.toNat, by have := HOO.out; omega⟩
  have HN4 : Hid (N < 4096) := hide (by omega)
  have HU : Hid (U < 256) := hide (by have := HOO.out; omega)
  have z0 : w4.cell? ⟨g, N, none⟩ = some (.int .u8 ((encP q3).getD N 0 : Nat)) := by
    have := (HR4.out.cell (j := N) (by omega))
    exact this
  have z1 : w4.frozen? ⟨g, N, none⟩ = false := HR4.out.frozen N
  obtain ⟨X, hX⟩ : ∃ X, X = (encP q3).getD N 0 := ⟨_, rfl⟩
  rw [← hX] at z0
  have HX := hide hX
  clear hX
  by_cases hne : X = U
  case pos =>
    have hn1 : ((X : Int) == (U : Int)) = true := by rw [hne]; simp
    have hn2 : ((X : Int) != (U : Int)) = false := by rw [hne]; simp
    go_wp2_with fail
    have HD9 := hide (decode15 xa xn xc lb w4 (HK.out.below HB4.out))
    refine HD9.out.mono ?_
    rintro e w20 ⟨v20, q20, er, rfl, hG20, hF20, hd20, hb20⟩
    obtain ⟨G, hG⟩ : ∃ G, G = w20.heap.size := ⟨_, rfl⟩
    obtain ⟨l20, hl20⟩ : ∃ l, l = q20.leaf := ⟨_, rfl⟩
    rw [← hl20]
    obtain ⟨V20, hV20⟩ : ∃ V, V = w20.alloc (.cells (pgc l20 v20) 25) := ⟨_, rfl⟩
    have hbv : Below w20.heap.size w20 V20 := by rw [hV20]; exact belowN _ _
    have HB20 : Hid (Below w.heap.size w V20) := hide (HB4.out.trans ((hb20.trans (hbv.mono hb20.size)).mono HB4.out.size))
    have HX20 : Hid (BkP V20 G v20 l20 q20) := hide (by rw [hV20, hG]; exact BkP.new hG20)
    have HF20 := hide hF20
    have HL20 := hide hl20
    clear hbv hb20 hG20 hF20 hl20 HD9
    obtain ⟨p0, p1, p2, p3⟩ := BlkG.cells HX20.out.x
    rw [hV20, hG] at p0 p1 p2 p3
    rcases hd20 with ⟨rfl, hc20, he20, _⟩ | ⟨rfl, hz20, _⟩
    · have HE20 := hide he20
      have HEN := hide (enc_yes v20 q20 V20 HX20.out.is hc20 HF20.out)
      have HEL := hide (encP_lt HX20.out.is)
      rw [← HL20.out] at HEN
      clear hc20 he20
      go_wp2_with fail
      try rw [← hV20]
      clear hV20 p0 p1 p2 p3
      refine HEN.out.mono ?_
      rintro e w21 ⟨g21, rfl, ho21, hb21⟩
      obtain ⟨a21, c21, e21, hI21⟩ := owns_isB ho21 HEL.out
      cases e21
      have HB21 : Hid (Below w.heap.size w w21) := hide (HB20.out.trans (hb21.mono HB20.out.size))
      rw [HE20.out] at hI21
      have hcv1 : (convert 26 9 (.slice (some ⟨g21, 0, none⟩) 4096 4096)).run Try.prog w21 = .ok (.string (str lb)) w21 := conv_str hI21
      have hcv2 : (convert 26 9 (.slice xa xn xc)).run Try.prog w21 = .ok (.string (str lb)) w21 := conv_str (HK.out.below HB21.out)
      have hst : ((str lb).toList == (str lb).toList) = true := by simp
      clear hI21 ho21 hb21 HEN
      go_wp2
      go_ret
      exact ⟨rfl, HB21.out⟩
    · have HSM : Hid (Calls Try.prog 22 #[.agg (pgc l20 v20), .agg #[.bool false, .slice none 0 0, .slice none 0 0, .slice none 0 0]] V20 fun e w' => e = .returned (.bool true) ∧ Below V20.heap.size V20 w') := hide (by
        have h1 := HX20.out.is
        have h2 := HL20.out
        rw [hz20] at h1 h2
        rw [h2]
        exact same_eq v20 Pv0 Pg0 V20 h1 (isG_0 _))
      go_wp2_with fail
      try rw [← hV20]
      clear hV20 p0 p1 p2 p3
      refine HSM.out.mono ?_
      rintro e w21 ⟨rfl, hb21⟩
      have HB21 : Hid (Below w.heap.size w w21) := hide (HB20.out.trans (hb21.mono HB20.out.size))
      clear hb21 HSM
      go_wp2
      go_ret
      exact ⟨rfl, HB21.out⟩
  case neg =>
    have hn1 : ((X : Int) == (U : Int)) = false := by simpa using (show ¬ (X : Int) = (U : Int) by omega)
    have hn2 : ((X : Int) != (U : Int)) = true := by simpa using (show ¬ (X : Int) = (U : Int) by omega)
    obtain ⟨V5, hV5⟩ : ∃ V, V = w4.setCell ⟨g, N, none⟩ (.int .u8 (U : Nat)) := ⟨_, rfl⟩
    have HB5 : Hid (Below w.heap.size w V5) := hide (by rw [hV5]; exact HB4.out.setCell HGB.out _)
    have HR5 : Hid (IsB V5 (some ⟨g, 0, none⟩) 4096 4096 ((encP q3).set N U)) := hide (by rw [hV5]; exact (HR4.out.set N U).isB (mem_set HEL.out HU.out))
    have HD5 := hide (decode15 (some ⟨g, 0, none⟩) 4096 4096 ((encP q3).set N U) V5 HR5.out)
    have HNE : Hid (¬ (encP q3).getD N 0 = U) := hide (by rw [← HX.out]; exact hne)
    go_wp2_with fail
    try rw [← hV5]
    clear hV5 z0 z1 hn1 hn2 HR5
    refine HD5.out.mono ?_
    rintro e w6 ⟨v6, q6, er, rfl, hG6, hF6, hd6, hb6⟩
    obtain rfl := dec_flip HE.out HEL.out HN4.out HU.out HNE.out hd6
    have HB6 : Hid (Below w.heap.size w (w6.alloc (.cells (pgc q6.leaf v6) 25))) := hide (by have := HB5.out.trans (hb6.mono HB5.out.size); exact this.alloc this.size _)
    clear hd6 hb6 hG6 hF6 HD5 HNE
    go_wp2_with fail
    generalize (w6.alloc (.cells (pgc q6.leaf v6) 25)) = V6 at *
    have HD9 := hide (decode15 xa xn xc lb V6 (HK.out.below HB6.out))
    refine HD9.out.mono ?_
    rintro e w20 ⟨v20, q20, er, rfl, hG20, hF20, hd20, hb20⟩
    obtain ⟨G, hG⟩ : ∃ G, G = w20.heap.size := ⟨_, rfl⟩
    obtain ⟨l20, hl20⟩ : ∃ l, l = q20.leaf := ⟨_, rfl⟩
    rw [← hl20]
    obtain ⟨V20, hV20⟩ : ∃ V, V = w20.alloc (.cells (pgc l20 v20) 25) := ⟨_, rfl⟩
    have hbv : Below w20.heap.size w20 V20 := by rw [hV20]; exact belowN _ _
    have HB20 : Hid (Below w.heap.size w V20) := hide (HB6.out.trans ((hb20.trans (hbv.mono hb20.size)).mono HB6.out.size))
    have HX20 : Hid (BkP V20 G v20 l20 q20) := hide (by rw [hV20, hG]; exact BkP.new hG20)
    have HF20 := hide hF20
    have HL20 := hide hl20
    clear hbv hb20 hG20 hF20 hl20 HD9
    obtain ⟨p0, p1, p2, p3⟩ := BlkG.cells HX20.out.x
    rw [hV20, hG] at p0 p1 p2 p3
    rcases hd20 with ⟨rfl, hc20, he20, _⟩ | ⟨rfl, hz20, _⟩
    · have HE20 := hide he20
      have HEN := hide (enc_yes v20 q20 V20 HX20.out.is hc20 HF20.out)
      have HEL := hide (encP_lt HX20.out.is)
      rw [← HL20.out] at HEN
      clear hc20 he20
      go_wp2_with fail
      try rw [← hV20]
      clear hV20 p0 p1 p2 p3
      refine HEN.out.mono ?_
      rintro e w21 ⟨g21, rfl, ho21, hb21⟩
      obtain ⟨a21, c21, e21, hI21⟩ := owns_isB ho21 HEL.out
      cases e21
      have HB21 : Hid (Below w.heap.size w w21) := hide (HB20.out.trans (hb21.mono HB20.out.size))
      rw [HE20.out] at hI21
      have hcv1 : (convert 26 9 (.slice (some ⟨g21, 0, none⟩) 4096 4096)).run Try.prog w21 = .ok (.string (str lb)) w21 := conv_str hI21
      have hcv2 : (convert 26 9 (.slice xa xn xc)).run Try.prog w21 = .ok (.string (str lb)) w21 := conv_str (HK.out.below HB21.out)
      have hst : ((str lb).toList == (str lb).toList) = true := by simp
      clear hI21 ho21 hb21 HEN
      go_wp2
      go_ret
      exact ⟨rfl, HB21.out⟩
    · have HSM : Hid (Calls Try.prog 22 #[.agg (pgc l20 v20), .agg #[.bool false, .slice none 0 0, .slice none 0 0, .slice none 0 0]] V20 fun e w' => e = .returned (.bool true) ∧ Below V20.heap.size V20 w') := hide (by
        have h1 := HX20.out.is
        have h2 := HL20.out
        rw [hz20] at h1 h2
        rw [h2]
        exact same_eq v20 Pv0 Pg0 V20 h1 (isG_0 _))
      go_wp2_with fail
      try rw [← hV20]
      clear hV20 p0 p1 p2 p3
      refine HSM.out.mono ?_
      rintro e w21 ⟨rfl, hb21⟩
      have HB21 : Hid (Below w.heap.size w w21) := hide (HB20.out.trans (hb21.mono HB20.out.size))
      clear hb21 HSM
      go_wp2
      go_ret
      exact ⟨rfl, HB21.out⟩
theorem back_any (v : Pv) (p : Pg) (xa : Option Addr) (xn xc : Nat) (lb : List Nat) (A : Int) (O : Int) (w : World) (h : IsG w v p) (hc : FewP v) (hk : IsB w xa xn xc lb) (hA : i64B A) (hO : 0 ≤ O ∧ O < 256) :
    Calls Try.prog 6 #[.agg (pgc p.leaf v), .slice xa xn xc, .int .i64 A, .int .u8 O] w fun e w' => e = .returned (.bool true) ∧ Below w.heap.size w w' := by
  by_cases hE : checkE p = 0
  · exact back_yes v p xa xn xc lb A O w h hc hk hA hO hE
  · exact back_no v p xa xn xc lb A O w h hc hk hA hO hE
end Go.Proofs.Ytebikoekpbnpbaa

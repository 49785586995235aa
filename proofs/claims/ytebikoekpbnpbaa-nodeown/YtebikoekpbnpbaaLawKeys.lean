/- NodeKeys: the walk -/
import Derived.Test.YtebikoekpbnpbaaDM
import Derived.Test.YtebikoekpbnpbaaLawFound
namespace Go.Proofs.Ytebikoekpbnpbaa
open Go.RowKit Cod
set_option maxRecDepth 100000
set_option linter.unusedVariables false
set_option linter.unusedSimpArgs false
/-- what the walk keeps: pages in blocks -/
structure KyP (W : World) (g : Nat) (v : Pv) (lf : Bool) (p : Pg) : Prop where
  x : BlkG W g lf v
  is : IsG W v p
theorem KyP.below {W W' : World} {g : Nat} {v : Pv} {lf : Bool} {p : Pg} (h : KyP W g v lf p) (hb : Below W.heap.size W W') : KyP W' g v lf p := ⟨(hb.block _ (heap_ltN h.x)).trans h.x, h.is.below hb⟩
theorem KyP.new {w : World} {v : Pv} {lf : Bool} {p : Pg} (h : IsG w v p) : KyP (w.alloc (.cells (pgc lf v) 25)) w.heap.size v lf p := ⟨heap_alloc_new w _, h.below ((Below.refl _ w).alloc (Nat.le_refl _) _)⟩
theorem below_new (w : World) (o : Obj) : Below w.heap.size w (w.alloc o) := (Below.refl _ w).alloc (Nat.le_refl _) _
theorem same_at {v v' : Pv} {p : Pg} {lf : Bool} (hl : lf = p.leaf) (W : World) (h : IsG W v p) (h' : IsG W v' p) :
    Calls Try.prog 22 #[.agg (pgc lf v), .agg (pgc lf v')] W fun e w' => e = .returned (.bool true) ∧ Below W.heap.size W w' := by
  subst hl
  exact same_eq v v' p W h h'
set_option maxHeartbeats 8000000 in
theorem keys_any (v : Pv) (p : Pg) (xa : Option Addr) (xn xc : Nat) (key : List Nat) (ya : Option Addr) (yn yc : Nat) (val : List Nat) (w : World) (h : IsG w v p) (hc : FewP v) (hs : (∀ b ∈ p.keys, b.length ≤ 2000000) ∧ ∀ b ∈ p.vals, b.length ≤ 2000000) (hk : IsB w xa xn xc key) (hv : IsB w ya yn yc val) :
    Calls Try.prog 4 #[.agg (pgc p.leaf v), .slice xa xn xc, .slice ya yn yc] w fun e w' => e = .returned (.bool true) ∧ Below w.heap.size w w' := by
  obtain ⟨V0, hV0⟩ : ∃ V0, V0 = w.alloc (.cells (pgc p.leaf v) 25) := ⟨_, rfl⟩
  have HB0 : Hid (Below w.heap.size w V0) := hide (by rw [hV0]; exact below_new _ _)
  have HX0 : Hid (KyP V0 w.heap.size v p.leaf p) := hide (by rw [hV0]; exact KyP.new h)
  have HCO := hide (rcopy_any v p V0 HX0.out.is hc hs p.leaf)
  have HFU : Hid (∀ (u : Pv) (W : World), IsG W u p → FewP u → IsB W xa xn xc key → Calls Try.prog 23 #[.agg (pgc p.leaf u), .slice xa xn xc] W fun e w' => e = .returned (.tuple #[.int .i64 ((findR p key).1 : Nat), .bool (findR p key).2.1, .int .i64 (findR p key).2.2]) ∧ Below W.heap.size W w') := hide (fun u W h1 h2 h3 => find_any u p xa xn xc key W h1 h2 h3)
  have HFR : Hid (∀ (u : Pv) (W : World), IsG W u p → FewP u → IsB W xa xn xc key → Calls Try.prog 24 #[.agg (pgc p.leaf u), .slice xa xn xc] W fun e w' => e = .returned (.tuple #[.int .i64 ((findR p key).1 : Nat), .bool (findR p key).2.1, .int .i64 (findR p key).2.2]) ∧ Below W.heap.size W w') := hide (fun u W h1 h2 h3 => rfind_any u p xa xn xc key W h1 h2 h3)
  have HPU : Hid (∀ (u : Pv) (W : World), IsG W u p → FewP u → IsB W xa xn xc key → IsB W ya yn yc val → Calls Try.prog 25 #[.agg (pgc p.leaf u), .slice xa xn xc, .slice ya yn yc] W fun e w' => ∃ v', e = .returned (.tuple #[.agg (pgc (putR p key val).1.leaf v'), .int .i64 (putR p key val).2]) ∧ IsG w' v' (putR p key val).1 ∧ Below W.heap.size W w') := hide (fun u W h1 h2 h3 h4 => (put_any u p xa xn xc key ya yn yc val W h1 h2 h3 h4).mono (fun e w' ⟨v', he, hn, hb⟩ => ⟨v', he, hn.is, hb⟩))
  have HPR : Hid (∀ (u : Pv) (W : World), IsG W u p → FewP u → IsB W xa xn xc key → IsB W ya yn yc val → Calls Try.prog 26 #[.agg (pgc p.leaf u), .slice xa xn xc, .slice ya yn yc] W fun e w' => ∃ v', e = .returned (.tuple #[.agg (pgc (putR p key val).1.leaf v'), .int .i64 (putR p key val).2]) ∧ IsG w' v' (putR p key val).1 ∧ Below W.heap.size W w') := hide (fun u W h1 h2 h3 h4 => rput_any u p xa xn xc key ya yn yc val W h1 h2 h3 h4)
  have HCU : Hid (∀ (u : Pv) (W : World), IsG W u p → FewP u → IsB W xa xn xc key → Calls Try.prog 27 #[.agg (pgc p.leaf u), .slice xa xn xc] W fun e w' => ∃ v', e = .returned (.tuple #[.agg (pgc (cutR p key).1.leaf v'), .bool (cutR p key).2.1, .int .i64 (cutR p key).2.2]) ∧ IsG w' v' (cutR p key).1 ∧ Below W.heap.size W w') := hide (fun u W h1 h2 h3 => (cut_any u p xa xn xc key W h1 h2 h3).mono (fun e w' ⟨v', he, hn, hb⟩ => ⟨v', he, hn.is, hb⟩))
  have HCR : Hid (∀ (u : Pv) (W : World), IsG W u p → FewP u → IsB W xa xn xc key → Calls Try.prog 28 #[.agg (pgc p.leaf u), .slice xa xn xc] W fun e w' => ∃ v', e = .returned (.tuple #[.agg (pgc (cutR p key).1.leaf v'), .bool (cutR p key).2.1, .int .i64 (cutR p key).2.2]) ∧ IsG w' v' (cutR p key).1 ∧ Below W.heap.size W w') := hide (fun u W h1 h2 h3 => rcut_any u p xa xn xc key W h1 h2 h3)
  have HFW := hide hc
  have HK := hide hk
  have HV := hide hv
  clear h hc hk hv hs
  obtain ⟨lf, hlf⟩ : ∃ lf, lf = p.leaf := ⟨_, rfl⟩
  rw [← hlf] at hV0 HX0 HCO HFU HFR HPU HPR HCU HCR ⊢
  have HLF := hide hlf
  clear hlf
  generalize findR p key = F at *
  generalize putR p key val = P at *
  generalize cutR p key = C at *
  obtain ⟨fn, fs, fe⟩ := F
  obtain ⟨pp, pe⟩ := P
  obtain ⟨cp, cs, ce⟩ := C
  obtain ⟨pl, hpl⟩ : ∃ pl, pl = pp.leaf := ⟨_, rfl⟩
  obtain ⟨cl, hcl⟩ : ∃ cl, cl = cp.leaf := ⟨_, rfl⟩
  dsimp only at HFU HFR HPU HPR HCU HCR
  rw [← hpl] at HPU HPR
  rw [← hcl] at HCU HCR
  have HPL := hide hpl
  have HCL := hide hcl
  clear hpl hcl
  obtain ⟨q0, q1, q2, q3⟩ := BlkG.cells HX0.out.x
  go_enter Try.func4, Try.ntmps4
  go_wp2_with fail
  rw [← hV0]
  clear hV0
  refine HCO.out.mono ?_
  rintro e w1 ⟨v1, xs, ys, M, rfl, hcp, hn1, hn2, hn3, hb1⟩
  obtain ⟨A, hA⟩ : ∃ A, A = w1.heap.size := ⟨_, rfl⟩
  obtain ⟨V1, hV1⟩ : ∃ V1, V1 = w1.alloc (.cells (pgc lf v1) 25) := ⟨_, rfl⟩
  have hbv : Below w1.heap.size w1 V1 := by rw [hV1]; exact below_new _ _
  have hb01 : Below V0.heap.size V0 V1 := hb1.trans (hbv.mono hb1.size)
  have HB1 : Hid (Below w.heap.size w V1) := hide (HB0.out.trans (hb01.mono HB0.out.size))
  have HX1 := hide (HX0.out.below hb01)
  have HY1 : Hid (KyP V1 A v1 lf p) := hide (by rw [hV1, hA]; exact KyP.new hcp.is)
  have HFW1 : Hid (FewP v1) := hide (by unfold FewP; rw [hn1, hn2, hn3]; exact HFW.out)
  have HF1 := hide (HFU.out v1 V1 HY1.out.is HFW1.out (HK.out.below HB1.out))
  clear hbv hb01 hcp hn1 hn2 hn3 hb1 HX0 HB0 HCO HFU q0 q1 q2 q3
  obtain ⟨q0, q1, q2, q3⟩ := BlkG.cells HX1.out.x
  obtain ⟨r0, r1, r2, r3⟩ := BlkG.cells HY1.out.x
  rw [hA] at r0 r1 r2 r3
  go_wp2_with fail
  try rw [← hV1]
  try rw [← hA]
  try rw [← hA] at r0 r1 r2 r3
  clear hV1 hA
  refine HF1.out.mono ?_
  rintro e w2 ⟨rfl, hb2⟩
  have HB2 : Hid (Below w.heap.size w w2) := hide (HB1.out.trans (hb2.mono HB1.out.size))
  have HX2 := hide (HX1.out.below hb2)
  have HY2 := hide (HY1.out.below hb2)
  have HF2 := hide (HFR.out v w2 HX2.out.is HFW.out (HK.out.below HB2.out))
  clear hb2 HX1 HY1 HB1 HF1 HFR q0 q1 q2 q3 r0 r1 r2 r3
  obtain ⟨q0, q1, q2, q3⟩ := BlkG.cells HX2.out.x
  obtain ⟨r0, r1, r2, r3⟩ := BlkG.cells HY2.out.x
  go_wp2_with fail
  refine HF2.out.mono ?_
  rintro e w3 ⟨rfl, hb3⟩
  have HB3 : Hid (Below w.heap.size w w3) := hide (HB2.out.trans (hb3.mono HB2.out.size))
  have HX3 := hide (HX2.out.below hb3)
  have HY3 := hide (HY2.out.below hb3)
  have HP1 := hide (HPU.out v1 w3 HY3.out.is HFW1.out (HK.out.below HB3.out) (HV.out.below HB3.out))
  clear hb3 HX2 HY2 HB2 HF2 HPU q0 q1 q2 q3 r0 r1 r2 r3
  obtain ⟨q0, q1, q2, q3⟩ := BlkG.cells HX3.out.x
  obtain ⟨r0, r1, r2, r3⟩ := BlkG.cells HY3.out.x
  go_wp2_with fail
  refine HP1.out.mono ?_
  rintro e w4 ⟨v2, rfl, hg, hb⟩
  obtain ⟨B, hB⟩ : ∃ B, B = w4.heap.size := ⟨_, rfl⟩
  obtain ⟨V4, hV4⟩ : ∃ V4, V4 = w4.alloc (.cells (pgc pl v2) 25) := ⟨_, rfl⟩
  have hbv : Below w4.heap.size w4 V4 := by rw [hV4]; exact below_new _ _
  have hb4 : Below w3.heap.size w3 V4 := hb.trans (hbv.mono hb.size)
  have HB4 : Hid (Below w.heap.size w V4) := hide (HB3.out.trans (hb4.mono HB3.out.size))
  have HX4 := hide (HX3.out.below hb4)
  have HY4 := hide (HY3.out.below hb4)
  have HZ4 : Hid (KyP V4 B v2 pl pp) := hide (by rw [hV4, hB]; exact KyP.new hg)
  have HP2 := hide (HPR.out v V4 HX4.out.is HFW.out (HK.out.below HB4.out) (HV.out.below HB4.out))
  clear hbv hb hg hb4 HX3 HY3 HB3 HP1 HPR q0 q1 q2 q3 r0 r1 r2 r3
  obtain ⟨q0, q1, q2, q3⟩ := BlkG.cells HX4.out.x
  obtain ⟨r0, r1, r2, r3⟩ := BlkG.cells HY4.out.x
  rw [hV4] at q0 q1 q2 q3 r0 r1 r2 r3
  go_wp2_with fail
  try rw [← hV4]
  try rw [← hB]
  clear hV4 hB
  refine HP2.out.mono ?_
  rintro e w5 ⟨v3, rfl, hg, hb⟩
  obtain ⟨B2, hB2⟩ : ∃ B, B = w5.heap.size := ⟨_, rfl⟩
  obtain ⟨V5, hV5⟩ : ∃ V, V = w5.alloc (.cells (pgc pl v3) 25) := ⟨_, rfl⟩
  have hbv : Below w5.heap.size w5 V5 := by rw [hV5]; exact below_new _ _
  have hb5 : Below V4.heap.size V4 V5 := hb.trans (hbv.mono hb.size)
  have HB5 : Hid (Below w.heap.size w V5) := hide (HB4.out.trans (hb5.mono HB4.out.size))
  have HX5 := hide (HX4.out.below hb5)
  have HY5 := hide (HY4.out.below hb5)
  have HZ5 := hide (HZ4.out.below hb5)
  have HU5 : Hid (KyP V5 B2 v3 pl pp) := hide (by rw [hV5, hB2]; exact KyP.new hg)
  have HC1 := hide (HCU.out v1 V5 HY5.out.is HFW1.out (HK.out.below HB5.out))
  clear hbv hb hg hb5 HX4 HY4 HZ4 HB4 HP2 HCU q0 q1 q2 q3 r0 r1 r2 r3
  obtain ⟨q0, q1, q2, q3⟩ := BlkG.cells HX5.out.x
  obtain ⟨r0, r1, r2, r3⟩ := BlkG.cells HY5.out.x
  rw [hV5] at q0 q1 q2 q3 r0 r1 r2 r3
  go_wp2_with fail
  try rw [← hV5]
  try rw [← hB2]
  clear hV5 hB2
  refine HC1.out.mono ?_
  rintro e w6 ⟨v4, rfl, hg, hb⟩
  obtain ⟨D, hD⟩ : ∃ B, B = w6.heap.size := ⟨_, rfl⟩
  obtain ⟨V6, hV6⟩ : ∃ V, V = w6.alloc (.cells (pgc cl v4) 25) := ⟨_, rfl⟩
  have hbv : Below w6.heap.size w6 V6 := by rw [hV6]; exact below_new _ _
  have hb6 : Below V5.heap.size V5 V6 := hb.trans (hbv.mono hb.size)
  have HB6 : Hid (Below w.heap.size w V6) := hide (HB5.out.trans (hb6.mono HB5.out.size))
  have HX6 := hide (HX5.out.below hb6)
  have HY6 := hide (HY5.out.below hb6)
  have HZ6 := hide (HZ5.out.below hb6)
  have HU6 := hide (HU5.out.below hb6)
  have HS6 : Hid (KyP V6 D v4 cl cp) := hide (by rw [hV6, hD]; exact KyP.new hg)
  have HC2 := hide (HCR.out v V6 HX6.out.is HFW.out (HK.out.below HB6.out))
  clear hbv hb hg hb6 HX5 HY5 HZ5 HU5 HB5 HC1 HCR q0 q1 q2 q3 r0 r1 r2 r3
  obtain ⟨q0, q1, q2, q3⟩ := BlkG.cells HX6.out.x
  obtain ⟨r0, r1, r2, r3⟩ := BlkG.cells HY6.out.x
  rw [hV6] at q0 q1 q2 q3 r0 r1 r2 r3
  go_wp2_with fail
  try rw [← hV6]
  try rw [← hD]
  clear hV6 hD
  refine HC2.out.mono ?_
  rintro e w7 ⟨v5, rfl, hg, hb⟩
  obtain ⟨D2, hD2⟩ : ∃ B, B = w7.heap.size := ⟨_, rfl⟩
  obtain ⟨V7, hV7⟩ : ∃ V, V = w7.alloc (.cells (pgc cl v5) 25) := ⟨_, rfl⟩
  have hbv : Below w7.heap.size w7 V7 := by rw [hV7]; exact below_new _ _
  have hb7 : Below V6.heap.size V6 V7 := hb.trans (hbv.mono hb.size)
  have HB7 : Hid (Below w.heap.size w V7) := hide (HB6.out.trans (hb7.mono HB6.out.size))
  have HX7 := hide (HX6.out.below hb7)
  have HY7 := hide (HY6.out.below hb7)
  have HZ7 := hide (HZ6.out.below hb7)
  have HU7 := hide (HU6.out.below hb7)
  have HS7 := hide (HS6.out.below hb7)
  have HT7 : Hid (KyP V7 D2 v5 cl cp) := hide (by rw [hV7, hD2]; exact KyP.new hg)
  clear hbv hb hg hb7 HX6 HY6 HZ6 HU6 HS6 HB6 HC2 q0 q1 q2 q3 r0 r1 r2 r3
  go_wp2_with fail
  try rw [← hV7]
  try rw [← hD2]
  clear hV7 hD2
  refine (lives_any V7).mono ?_
  rintro e w8 ⟨rfl, hb⟩
  have HB8 : Hid (Below w.heap.size w w8) := hide (HB7.out.trans (hb.mono HB7.out.size))
  have HX8 := hide (HX7.out.below hb)
  have HY8 := hide (HY7.out.below hb)
  have HZ8 := hide (HZ7.out.below hb)
  have HU8 := hide (HU7.out.below hb)
  have HS8 := hide (HS7.out.below hb)
  have HT8 := hide (HT7.out.below hb)
  clear hb HX7 HY7 HZ7 HU7 HS7 HT7 HB7
  have HM1 := hide (same_at HPL.out w8 HZ8.out.is HU8.out.is)
  obtain ⟨q0, q1, q2, q3⟩ := BlkG.cells HZ8.out.x
  obtain ⟨r0, r1, r2, r3⟩ := BlkG.cells HU8.out.x
  go_wp2_with fail
  refine HM1.out.mono ?_
  rintro e w9 ⟨rfl, hb⟩
  have HB9 : Hid (Below w.heap.size w w9) := hide (HB8.out.trans (hb.mono HB8.out.size))
  have HX9 := hide (HX8.out.below hb)
  have HY9 := hide (HY8.out.below hb)
  have HS9 := hide (HS8.out.below hb)
  have HT9 := hide (HT8.out.below hb)
  clear hb HX8 HY8 HZ8 HU8 HS8 HT8 HB8 HM1 q0 q1 q2 q3 r0 r1 r2 r3
  have HM2 := hide (same_at HCL.out w9 HS9.out.is HT9.out.is)
  obtain ⟨q0, q1, q2, q3⟩ := BlkG.cells HS9.out.x
  obtain ⟨r0, r1, r2, r3⟩ := BlkG.cells HT9.out.x
  go_wp2_with fail
  refine HM2.out.mono ?_
  rintro e w10 ⟨rfl, hb⟩
  have HB10 : Hid (Below w.heap.size w w10) := hide (HB9.out.trans (hb.mono HB9.out.size))
  have HX10 := hide (HX9.out.below hb)
  have HY10 := hide (HY9.out.below hb)
  clear hb HX9 HY9 HS9 HT9 HB9 HM2 q0 q1 q2 q3 r0 r1 r2 r3
  have HM3 := hide (same_at HLF.out w10 HY10.out.is HX10.out.is)
  obtain ⟨q0, q1, q2, q3⟩ := BlkG.cells HY10.out.x
  obtain ⟨r0, r1, r2, r3⟩ := BlkG.cells HX10.out.x
  go_wp2_with fail
  refine HM3.out.mono ?_
  rintro e w11 ⟨rfl, hb⟩
  have HBF : Hid (Below w.heap.size w w11) := hide (HB10.out.trans (hb.mono HB10.out.size))
  clear hb HX10 HY10 HB10 HM3 q0 q1 q2 q3 r0 r1 r2 r3
  go_wp2
  go_ret
  exact ⟨rfl, HBF.out⟩
end Go.Proofs.Ytebikoekpbnpbaa

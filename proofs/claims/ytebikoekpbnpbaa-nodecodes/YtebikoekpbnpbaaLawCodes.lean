/- NodeCodes: the walk -/
import Derived.Test.YtebikoekpbnpbaaDW
import Derived.Test.YtebikoekpbnpbaaEA
import Derived.Test.YtebikoekpbnpbaaLawFound
namespace Go.Proofs.Ytebikoekpbnpbaa
open Go.RowKit Cod
set_option maxRecDepth 100000
set_option linter.unusedVariables false
set_option linter.unusedSimpArgs false
/-- a page in a block of its own -/
structure CoP (W : World) (g : Nat) (v : Pv) (lf : Bool) (p : Pg) : Prop where
  x : BlkG W g lf v
  is : IsG W v p
theorem CoP.below {W W' : World} {g : Nat} {v : Pv} {lf : Bool} {p : Pg} (h : CoP W g v lf p) (hb : Below W.heap.size W W') : CoP W' g v lf p := ⟨(hb.block _ (heap_ltN h.x)).trans h.x, h.is.below hb⟩
theorem CoP.new {w : World} {v : Pv} {lf : Bool} {p : Pg} (h : IsG w v p) : CoP (w.alloc (.cells (pgc lf v) 25)) w.heap.size v lf p := ⟨heap_alloc_new w _, h.below ((Below.refl _ w).alloc (Nat.le_refl _) _)⟩
theorem same_atC {v v' : Pv} {p : Pg} {lf : Bool} (hl : lf = p.leaf) (W : World) (h : IsG W v p) (h' : IsG W v' p) :
    Calls Try.prog 22 #[.agg (pgc lf v), .agg (pgc lf v')] W fun e w' => e = .returned (.bool true) ∧ Below W.heap.size W w' := by
  subst hl
  exact same_eq v v' p W h h'
theorem decR_eq {l : List Nat} {p q : Pg} {e f : Int} (h : DecR l p e) (h' : DecR l q f) : p = q ∧ e = f := by
  rcases h with ⟨h1, h2, h3, h4⟩ | ⟨h1, h2, h3⟩
  · rcases h' with ⟨g1, g2, g3, g4⟩ | ⟨g1, g2, g3⟩
    · exact ⟨h4 q g2 g3, h1.trans g1.symm⟩
    · exact absurd h3 (g3 p h2)
  · rcases h' with ⟨g1, g2, g3, g4⟩ | ⟨g1, g2, g3⟩
    · exact absurd g3 (h3 q g2)
    · exact ⟨h2.trans g2.symm, h1.trans g1.symm⟩
/-- what both Encodes answer: the bytes' list -/
def encL (p : Pg) : List Nat := if checkE p = 0 then encP p else []
/-- node.Encode -/
theorem enc_any (v : Pv) (p : Pg) (w : World) (h : IsG w v p) (hc : FewP v) : Calls Try.prog 13 #[.agg (pgc p.leaf v)] w fun e w' => ∃ a n c, e = .returned (.tuple #[.slice a n c, .int .i64 (checkE p)]) ∧ IsB w' a n c (encL p) ∧ Below w.heap.size w w' := by
  by_cases hE : checkE p = 0
  · refine (enc_yes v p w h hE hc).mono ?_
    rintro e w' ⟨g, rfl, ho, hb⟩
    obtain ⟨a, c, e2, hI⟩ := owns_isB ho (encP_lt h)
    cases e2
    exact ⟨_, _, _, by rw [hE], by unfold encL; rw [if_pos hE]; exact hI, hb⟩
  · refine (enc_no v p w h hE hc).mono ?_
    rintro e w' ⟨rfl, hb⟩
    exact ⟨_, _, _, rfl, by unfold encL; rw [if_neg hE]; exact isB_nil _, hb⟩
theorem renc_any (v : Pv) (p : Pg) (w : World) (h : IsG w v p) (hc : FewP v) : Calls Try.prog 14 #[.agg (pgc p.leaf v)] w fun e w' => ∃ a n c, e = .returned (.tuple #[.slice a n c, .int .i64 (checkE p)]) ∧ IsB w' a n c (encL p) ∧ Below w.heap.size w w' := by
  by_cases hE : checkE p = 0
  · refine (renc_yes v p w h hE hc).mono ?_
    rintro e w' ⟨a, c, rfl, hI, hb⟩
    exact ⟨_, _, _, by rw [hE], by unfold encL; rw [if_pos hE]; exact hI, hb⟩
  · refine (renc_no v p w h hE hc).mono ?_
    rintro e w' ⟨rfl, hb⟩
    exact ⟨_, _, _, rfl, by unfold encL; rw [if_neg hE]; exact isB_nil _, hb⟩
set_option maxHeartbeats 8000000 in
theorem codes_any (v : Pv) (p : Pg) (xa : Option Addr) (xn xc : Nat) (lb : List Nat) (w : World) (h : IsG w v p) (hc : FewP v) (hs : (∀ b ∈ p.keys, b.length ≤ 2000000) ∧ ∀ b ∈ p.vals, b.length ≤ 2000000) (hk : IsB w xa xn xc lb) :
    Calls Try.prog 3 #[.agg (pgc p.leaf v), .slice xa xn xc] w fun e w' => e = .returned (.bool true) ∧ Below w.heap.size w w' := by
  obtain ⟨V0, hV0⟩ : ∃ V0, V0 = w.alloc (.cells (pgc p.leaf v) 25) := ⟨_, rfl⟩
  have HB0 : Hid (Below w.heap.size w V0) := hide (by rw [hV0]; exact belowN _ _)
  have HX0 : Hid (CoP V0 w.heap.size v p.leaf p) := hide (by rw [hV0]; exact CoP.new h)
  have HCO := hide (rcopy_any v p V0 HX0.out.is hc hs p.leaf)
  have HEU : Hid (∀ (u : Pv) (W : World), IsG W u p → FewP u → Calls Try.prog 13 #[.agg (pgc p.leaf u)] W fun e w' => ∃ a n c, e = .returned (.tuple #[.slice a n c, .int .i64 (checkE p)]) ∧ IsB w' a n c (encL p) ∧ Below W.heap.size W w') := hide (fun u W h1 h2 => enc_any u p W h1 h2)
  have HER : Hid (∀ (u : Pv) (W : World), IsG W u p → FewP u → Calls Try.prog 14 #[.agg (pgc p.leaf u)] W fun e w' => ∃ a n c, e = .returned (.tuple #[.slice a n c, .int .i64 (checkE p)]) ∧ IsB w' a n c (encL p) ∧ Below W.heap.size W w') := hide (fun u W h1 h2 => renc_any u p W h1 h2)
  have HCU : Hid (∀ (u : Pv) (W : World), IsG W u p → FewP u → Calls Try.prog 18 #[.agg (pgc p.leaf u)] W fun e w' => e = .returned (.int .i64 (checkE p)) ∧ Below W.heap.size W w') := hide (fun u W h1 h2 => check_any u p W h1 h2)
  have HCR : Hid (∀ (u : Pv) (W : World), IsG W u p → FewP u → Calls Try.prog 19 #[.agg (pgc p.leaf u)] W fun e w' => e = .returned (.int .i64 (checkE p)) ∧ Below W.heap.size W w') := hide (fun u W h1 h2 => rcheck_any u p W h1 h2)
  have HSU : Hid (∀ (u : Pv) (W : World), IsG W u p → FewP u → Calls Try.prog 20 #[.agg (pgc p.leaf u)] W fun e w' => e = .returned (.int .i64 (sizeE p)) ∧ Below W.heap.size W w') := hide (fun u W h1 h2 => size_any u p W h1 h2)
  have HSR : Hid (∀ (u : Pv) (W : World), IsG W u p → FewP u → Calls Try.prog 21 #[.agg (pgc p.leaf u)] W fun e w' => e = .returned (.int .i64 (sizeE p)) ∧ Below W.heap.size W w') := hide (fun u W h1 h2 => rsize_any u p W h1 h2)
  have HFW := hide hc
  have HK := hide hk
  clear h hc hk hs
  obtain ⟨lf, hlf⟩ : ∃ lf, lf = p.leaf := ⟨_, rfl⟩
  rw [← hlf] at hV0 HX0 HCO HEU HER HCU HCR HSU HSR ⊢
  have HLF := hide hlf
  clear hlf
  generalize checkE p = E at *
  generalize sizeE p = S at *
  generalize encL p = L at *
  obtain ⟨q0, q1, q2, q3⟩ := BlkG.cells HX0.out.x
  go_enter Try.func3, Try.ntmps3
  go_wp2_with fail
  rw [← hV0]
  clear hV0
  refine HCO.out.mono ?_
  rintro e w1 ⟨v1, xs, ys, M, rfl, hcp, hn1, hn2, hn3, hb1⟩
  obtain ⟨A, hA⟩ : ∃ A, A = w1.heap.size := ⟨_, rfl⟩
  obtain ⟨V1, hV1⟩ : ∃ V1, V1 = w1.alloc (.cells (pgc lf v1) 25) := ⟨_, rfl⟩
  have hbv : Below w1.heap.size w1 V1 := by rw [hV1]; exact belowN _ _
  have hb01 : Below V0.heap.size V0 V1 := hb1.trans (hbv.mono hb1.size)
  have HB1 : Hid (Below w.heap.size w V1) := hide (HB0.out.trans (hb01.mono HB0.out.size))
  have HX1 := hide (HX0.out.below hb01)
  have HY1 : Hid (CoP V1 A v1 lf p) := hide (by rw [hV1, hA]; exact CoP.new hcp.is)
  have HFW1 : Hid (FewP v1) := hide (by unfold FewP; rw [hn1, hn2, hn3]; exact HFW.out)
  have HE1 := hide (HEU.out v1 V1 HY1.out.is HFW1.out)
  clear hbv hb01 hcp hn1 hn2 hn3 hb1 HX0 HB0 HCO HEU q0 q1 q2 q3
  obtain ⟨r0, r1, r2, r3⟩ := BlkG.cells HY1.out.x
  rw [hV1, hA] at r0 r1 r2 r3
  go_wp2_with fail
  try rw [← hV1]
  try rw [← hA]
  clear hV1 hA r0 r1 r2 r3
  refine HE1.out.mono ?_
  rintro e w2 ⟨ba, bn, bc, rfl, hI2, hb2⟩
  have HI2 := hide hI2
  have HB2 : Hid (Below w.heap.size w w2) := hide (HB1.out.trans (hb2.mono HB1.out.size))
  have HX2 := hide (HX1.out.below hb2)
  have HY2 := hide (HY1.out.below hb2)
  have HE2 := hide (HER.out v w2 HX2.out.is HFW.out)
  clear hI2 hb2 HX1 HY1 HB1 HE1 HER
  obtain ⟨q0, q1, q2, q3⟩ := BlkG.cells HX2.out.x
  go_wp2_with fail
  clear q0 q1 q2 q3
  refine HE2.out.mono ?_
  rintro e w3 ⟨ca, cn, cc, rfl, hI3, hb3⟩
  have HJ3 := hide hI3
  have HI3 := hide (HI2.out.below hb3)
  have HB3 : Hid (Below w.heap.size w w3) := hide (HB2.out.trans (hb3.mono HB2.out.size))
  have HX3 := hide (HX2.out.below hb3)
  have HY3 := hide (HY2.out.below hb3)
  have HD3 := hide (decode15 xa xn xc lb w3 (HK.out.below HB3.out))
  clear hI3 hb3 HX2 HY2 HB2 HE2 HI2
  go_wp2_with fail
  refine HD3.out.mono ?_
  rintro e w4 ⟨v4, q4, e4, rfl, hG4, hF4, hd4, hb4⟩
  obtain ⟨l4, hl4⟩ : ∃ l, l = q4.leaf := ⟨_, rfl⟩
  rw [← hl4]
  obtain ⟨D, hD⟩ : ∃ A, A = w4.heap.size := ⟨_, rfl⟩
  obtain ⟨V4, hV4⟩ : ∃ V1, V1 = w4.alloc (.cells (pgc l4 v4) 25) := ⟨_, rfl⟩
  have hbv : Below w4.heap.size w4 V4 := by rw [hV4]; exact belowN _ _
  have hb34 : Below w3.heap.size w3 V4 := hb4.trans (hbv.mono hb4.size)
  have HB4 : Hid (Below w.heap.size w V4) := hide (HB3.out.trans (hb34.mono HB3.out.size))
  have HX4 := hide (HX3.out.below hb34)
  have HY4 := hide (HY3.out.below hb34)
  have HI4 := hide (HI3.out.below hb34)
  have HJ4 := hide (HJ3.out.below hb34)
  have HU4 : Hid (CoP V4 D v4 l4 q4) := hide (by rw [hV4, hD]; exact CoP.new hG4)
  have HL4 := hide hl4
  have HR4 := hide hd4
  have HD4 := hide (rdecode16 xa xn xc lb V4 (HK.out.below HB4.out))
  clear hbv hb34 hb4 hG4 hF4 hd4 hl4 HX3 HY3 HB3 HI3 HJ3 HD3
  go_wp2_with fail
  try rw [← hV4]
  try rw [← hD]
  clear hV4 hD
  refine HD4.out.mono ?_
  rintro e w5 ⟨v5, q5, e5, rfl, hG5, hF5, hd5, hb5⟩
  obtain ⟨rfl, rfl⟩ := decR_eq HR4.out hd5
  obtain ⟨D2, hD2⟩ : ∃ A, A = w5.heap.size := ⟨_, rfl⟩
  rw [← HL4.out]
  obtain ⟨V5, hV5⟩ : ∃ V1, V1 = w5.alloc (.cells (pgc l4 v5) 25) := ⟨_, rfl⟩
  have hbv : Below w5.heap.size w5 V5 := by rw [hV5]; exact belowN _ _
  have hb45 : Below V4.heap.size V4 V5 := hb5.trans (hbv.mono hb5.size)
  have HB5 : Hid (Below w.heap.size w V5) := hide (HB4.out.trans (hb45.mono HB4.out.size))
  have HX5 := hide (HX4.out.below hb45)
  have HY5 := hide (HY4.out.below hb45)
  have HI5 := hide (HI4.out.below hb45)
  have HJ5 := hide (HJ4.out.below hb45)
  have HU5 := hide (HU4.out.below hb45)
  have HT5 : Hid (CoP V5 D2 v5 l4 q4) := hide (by rw [hV5, hD2]; exact CoP.new hG5)
  clear hbv hb45 hb5 hG5 hF5 hd5 HX4 HY4 HB4 HI4 HJ4 HU4 HD4 HR4
  go_wp2_with fail
  try rw [← hV5]
  try rw [← hD2]
  clear hV5 hD2
  have HSF : Hid (∀ W : World, Below V5.heap.size V5 W → (W.cell? ⟨A, 0, none⟩ = some (.bool lf) ∧ W.cell? ⟨A, 1, none⟩ = some (.slice v1.ka v1.kn v1.kc) ∧ W.cell? ⟨A, 2, none⟩ = some (.slice v1.va v1.vn v1.vc) ∧ W.cell? ⟨A, 3, none⟩ = some (.slice v1.ia v1.inn v1.ic)) ∧ (W.cell? ⟨w.heap.size, 0, none⟩ = some (.bool lf) ∧ W.cell? ⟨w.heap.size, 1, none⟩ = some (.slice v.ka v.kn v.kc) ∧ W.cell? ⟨w.heap.size, 2, none⟩ = some (.slice v.va v.vn v.vc) ∧ W.cell? ⟨w.heap.size, 3, none⟩ = some (.slice v.ia v.inn v.ic)) ∧ (W.cell? ⟨D, 0, none⟩ = some (.bool l4) ∧ W.cell? ⟨D, 1, none⟩ = some (.slice v4.ka v4.kn v4.kc) ∧ W.cell? ⟨D, 2, none⟩ = some (.slice v4.va v4.vn v4.vc) ∧ W.cell? ⟨D, 3, none⟩ = some (.slice v4.ia v4.inn v4.ic)) ∧ (W.cell? ⟨D2, 0, none⟩ = some (.bool l4) ∧ W.cell? ⟨D2, 1, none⟩ = some (.slice v5.ka v5.kn v5.kc) ∧ W.cell? ⟨D2, 2, none⟩ = some (.slice v5.va v5.vn v5.vc) ∧ W.cell? ⟨D2, 3, none⟩ = some (.slice v5.ia v5.inn v5.ic)) ∧ (convert 26 9 (.slice ba bn bc)).run Try.prog W = .ok (.string (str L)) W ∧ (convert 26 9 (.slice ca cn cc)).run Try.prog W = .ok (.string (str L)) W) := hide (fun W hW =>
    ⟨BlkG.cells (HY5.out.below hW).x, BlkG.cells (HX5.out.below hW).x, BlkG.cells (HU5.out.below hW).x, BlkG.cells (HT5.out.below hW).x, conv_str (HI5.out.below hW), conv_str (HJ5.out.below hW)⟩)
  have hst : ((str L).toList == (str L).toList) = true := by simp
  refine wp_region_held_drew (S := fun W : World => Below V5.heap.size V5 W) (by kernel_rfl) ?hS0 (fun hHeld => ?_)
  case hS0 => exact (Below.refl _ _).drew
  have HQ0 : Hid (Below V5.heap.size V5 V5.drew) := hide (Below.refl _ _).drew
  obtain ⟨W0, hW0⟩ : ∃ W, W = V5.drew := ⟨_, rfl⟩
  rw [← hW0] at HQ0 ⊢
  clear hW0
  skip
  refine hOne (i := 0) rfl (by kernel_rfl) (fun K hK => ?_)
  go_simp
  refine (lives_any W0).mono ?_
  rintro e W1 ⟨rfl, hb⟩
  have HQ1 : Hid (Below V5.heap.size V5 W1) := hide (HQ0.out.trans (hb.mono HQ0.out.size))
  clear hb
  refine hK.out _ _ HQ1.out (fun hHeld => ?_)
  clear hK K
  try simp only [Act.put, List.setIfInBounds_toArray, List.set_cons_zero, List.set_cons_succ]
  refine hTake (i := 1) (v := ?v1c) (some 37) rfl rfl (by kernel_rfl) (by kernel_rfl) (by kernel_rfl) (fun _ _ _ h => h) (by rfl) (by assumption) ?hy1c ?hn1c
  case hy1c => (intro w hSw; (try dsimp only at hSw); have hfs := HSF.out _ hSw; obtain ⟨⟨g0, g1, g2, g3⟩, ⟨h0, h1, h2, h3⟩, ⟨i0, i1, i2, i3⟩, ⟨j0, j1, j2, j3⟩, k0, k1⟩ := hfs; go_simp; try with_reducible rfl)
  try simp only [Act.put, List.setIfInBounds_toArray, List.set_cons_zero, List.set_cons_succ]
  refine hTake (i := 2) (v := ?v2c) (some 38) rfl rfl (by kernel_rfl) (by kernel_rfl) (by kernel_rfl) (fun _ _ _ h => h) (by rfl) (by assumption) ?hy2c ?hn2c
  case hy2c => (intro w hSw; (try dsimp only at hSw); have hfs := HSF.out _ hSw; obtain ⟨⟨g0, g1, g2, g3⟩, ⟨h0, h1, h2, h3⟩, ⟨i0, i1, i2, i3⟩, ⟨j0, j1, j2, j3⟩, k0, k1⟩ := hfs; go_simp; try with_reducible rfl)
  try simp only [Act.put, List.setIfInBounds_toArray, List.set_cons_zero, List.set_cons_succ]
  refine hTake (i := 4) (v := ?v4c) (some 40) rfl rfl (by kernel_rfl) (by kernel_rfl) (by kernel_rfl) (fun _ _ _ h => h) (by rfl) (by assumption) ?hy4c ?hn4c
  case hy4c => (intro w hSw; (try dsimp only at hSw); have hfs := HSF.out _ hSw; obtain ⟨⟨g0, g1, g2, g3⟩, ⟨h0, h1, h2, h3⟩, ⟨i0, i1, i2, i3⟩, ⟨j0, j1, j2, j3⟩, k0, k1⟩ := hfs; go_simp; try with_reducible rfl)
  try simp only [Act.put, List.setIfInBounds_toArray, List.set_cons_zero, List.set_cons_succ]
  skip
  refine hOne (i := 3) rfl (by kernel_rfl) (fun K hK => ?_)
  go_simp
  refine (HCU.out v1 W1 (HY5.out.below HQ1.out).is HFW1.out).mono ?_
  rintro e W2 ⟨rfl, hb⟩
  have HQ2 : Hid (Below V5.heap.size V5 W2) := hide (HQ1.out.trans (hb.mono HQ1.out.size))
  clear hb
  refine hK.out _ _ HQ2.out (fun hHeld => ?_)
  clear hK K
  try simp only [Act.put, List.setIfInBounds_toArray, List.set_cons_zero, List.set_cons_succ]
  skip
  refine hOne (i := 5) rfl (by kernel_rfl) (fun K hK => ?_)
  go_simp
  refine (HCR.out v W2 (HX5.out.below HQ2.out).is HFW.out).mono ?_
  rintro e W3 ⟨rfl, hb⟩
  have HQ3 : Hid (Below V5.heap.size V5 W3) := hide (HQ2.out.trans (hb.mono HQ2.out.size))
  clear hb
  refine hK.out _ _ HQ3.out (fun hHeld => ?_)
  clear hK K
  try simp only [Act.put, List.setIfInBounds_toArray, List.set_cons_zero, List.set_cons_succ]
  refine hTake (i := 6) (v := ?v6c) (some 42) rfl rfl (by kernel_rfl) (by kernel_rfl) (by kernel_rfl) (fun _ _ _ h => h) (by rfl) (by assumption) ?hy6c ?hn6c
  case hy6c => (intro w hSw; (try dsimp only at hSw); have hfs := HSF.out _ hSw; obtain ⟨⟨g0, g1, g2, g3⟩, ⟨h0, h1, h2, h3⟩, ⟨i0, i1, i2, i3⟩, ⟨j0, j1, j2, j3⟩, k0, k1⟩ := hfs; go_simp; try with_reducible rfl)
  try simp only [Act.put, List.setIfInBounds_toArray, List.set_cons_zero, List.set_cons_succ]
  refine hTake (i := 7) (v := ?v7c) (some 43) rfl rfl (by kernel_rfl) (by kernel_rfl) (by kernel_rfl) (fun _ _ _ h => h) (by rfl) (by assumption) ?hy7c ?hn7c
  case hy7c => (intro w hSw; (try dsimp only at hSw); have hfs := HSF.out _ hSw; obtain ⟨⟨g0, g1, g2, g3⟩, ⟨h0, h1, h2, h3⟩, ⟨i0, i1, i2, i3⟩, ⟨j0, j1, j2, j3⟩, k0, k1⟩ := hfs; go_simp; try with_reducible rfl)
  try simp only [Act.put, List.setIfInBounds_toArray, List.set_cons_zero, List.set_cons_succ]
  refine hTake (i := 8) (v := ?v8c) (some 44) rfl rfl (by kernel_rfl) (by kernel_rfl) (by kernel_rfl) (fun _ _ _ h => h) (by rfl) (by assumption) ?hy8c ?hn8c
  case hy8c => (intro w hSw; (try dsimp only at hSw); have hfs := HSF.out _ hSw; obtain ⟨⟨g0, g1, g2, g3⟩, ⟨h0, h1, h2, h3⟩, ⟨i0, i1, i2, i3⟩, ⟨j0, j1, j2, j3⟩, k0, k1⟩ := hfs; go_simp; try with_reducible rfl)
  try simp only [Act.put, List.setIfInBounds_toArray, List.set_cons_zero, List.set_cons_succ]
  refine hTake (i := 9) (v := ?v9c) (some 45) rfl rfl (by kernel_rfl) (by kernel_rfl) (by kernel_rfl) (fun _ _ _ h => h) (by rfl) (by assumption) ?hy9c ?hn9c
  case hy9c => (intro w hSw; (try dsimp only at hSw); have hfs := HSF.out _ hSw; obtain ⟨⟨g0, g1, g2, g3⟩, ⟨h0, h1, h2, h3⟩, ⟨i0, i1, i2, i3⟩, ⟨j0, j1, j2, j3⟩, k0, k1⟩ := hfs; go_simp; try with_reducible rfl)
  try simp only [Act.put, List.setIfInBounds_toArray, List.set_cons_zero, List.set_cons_succ]
  refine hTake (i := 11) (v := ?v11c) (some 47) rfl rfl (by kernel_rfl) (by kernel_rfl) (by kernel_rfl) (fun _ _ _ h => h) (by rfl) (by assumption) ?hy11c ?hn11c
  case hy11c => (intro w hSw; (try dsimp only at hSw); have hfs := HSF.out _ hSw; obtain ⟨⟨g0, g1, g2, g3⟩, ⟨h0, h1, h2, h3⟩, ⟨i0, i1, i2, i3⟩, ⟨j0, j1, j2, j3⟩, k0, k1⟩ := hfs; go_simp; try with_reducible rfl)
  try simp only [Act.put, List.setIfInBounds_toArray, List.set_cons_zero, List.set_cons_succ]
  skip
  refine hOne (i := 10) rfl (by kernel_rfl) (fun K hK => ?_)
  go_simp
  refine (HSU.out v1 W3 (HY5.out.below HQ3.out).is HFW1.out).mono ?_
  rintro e W4 ⟨rfl, hb⟩
  have HQ4 : Hid (Below V5.heap.size V5 W4) := hide (HQ3.out.trans (hb.mono HQ3.out.size))
  clear hb
  refine hK.out _ _ HQ4.out (fun hHeld => ?_)
  clear hK K
  try simp only [Act.put, List.setIfInBounds_toArray, List.set_cons_zero, List.set_cons_succ]
  skip
  refine hOne (i := 12) rfl (by kernel_rfl) (fun K hK => ?_)
  go_simp
  refine (HSR.out v W4 (HX5.out.below HQ4.out).is HFW.out).mono ?_
  rintro e W5 ⟨rfl, hb⟩
  have HQ5 : Hid (Below V5.heap.size V5 W5) := hide (HQ4.out.trans (hb.mono HQ4.out.size))
  clear hb
  refine hK.out _ _ HQ5.out (fun hHeld => ?_)
  clear hK K
  try simp only [Act.put, List.setIfInBounds_toArray, List.set_cons_zero, List.set_cons_succ]
  refine hTake (i := 13) (v := ?v13c) (some 49) rfl rfl (by kernel_rfl) (by kernel_rfl) (by kernel_rfl) (fun _ _ _ h => h) (by rfl) (by assumption) ?hy13c ?hn13c
  case hy13c => (intro w hSw; (try dsimp only at hSw); have hfs := HSF.out _ hSw; obtain ⟨⟨g0, g1, g2, g3⟩, ⟨h0, h1, h2, h3⟩, ⟨i0, i1, i2, i3⟩, ⟨j0, j1, j2, j3⟩, k0, k1⟩ := hfs; go_simp; try with_reducible rfl)
  try simp only [Act.put, List.setIfInBounds_toArray, List.set_cons_zero, List.set_cons_succ]
  refine hTake (i := 14) (v := ?v14c) (some 50) rfl rfl (by kernel_rfl) (by kernel_rfl) (by kernel_rfl) (fun _ _ _ h => h) (by rfl) (by assumption) ?hy14c ?hn14c
  case hy14c => (intro w hSw; (try dsimp only at hSw); have hfs := HSF.out _ hSw; obtain ⟨⟨g0, g1, g2, g3⟩, ⟨h0, h1, h2, h3⟩, ⟨i0, i1, i2, i3⟩, ⟨j0, j1, j2, j3⟩, k0, k1⟩ := hfs; go_simp; try with_reducible rfl)
  try simp only [Act.put, List.setIfInBounds_toArray, List.set_cons_zero, List.set_cons_succ]
  refine hTake (i := 15) (v := ?v15c) (some 51) rfl rfl (by kernel_rfl) (by kernel_rfl) (by kernel_rfl) (fun _ _ _ h => h) (by rfl) (by assumption) ?hy15c ?hn15c
  case hy15c => (intro w hSw; (try dsimp only at hSw); have hfs := HSF.out _ hSw; obtain ⟨⟨g0, g1, g2, g3⟩, ⟨h0, h1, h2, h3⟩, ⟨i0, i1, i2, i3⟩, ⟨j0, j1, j2, j3⟩, k0, k1⟩ := hfs; go_simp; try with_reducible rfl)
  try simp only [Act.put, List.setIfInBounds_toArray, List.set_cons_zero, List.set_cons_succ]
  refine hTake (i := 16) (v := ?v16c) (some 52) rfl rfl (by kernel_rfl) (by kernel_rfl) (by kernel_rfl) (fun _ _ _ h => h) (by rfl) (by assumption) ?hy16c ?hn16c
  case hy16c => (intro w hSw; (try dsimp only at hSw); have hfs := HSF.out _ hSw; obtain ⟨⟨g0, g1, g2, g3⟩, ⟨h0, h1, h2, h3⟩, ⟨i0, i1, i2, i3⟩, ⟨j0, j1, j2, j3⟩, k0, k1⟩ := hfs; go_simp; try with_reducible rfl)
  try simp only [Act.put, List.setIfInBounds_toArray, List.set_cons_zero, List.set_cons_succ]
  refine hTake (i := 18) (v := ?v18c) (some 54) rfl rfl (by kernel_rfl) (by kernel_rfl) (by kernel_rfl) (fun _ _ _ h => h) (by rfl) (by assumption) ?hy18c ?hn18c
  case hy18c => (intro w hSw; (try dsimp only at hSw); have hfs := HSF.out _ hSw; obtain ⟨⟨g0, g1, g2, g3⟩, ⟨h0, h1, h2, h3⟩, ⟨i0, i1, i2, i3⟩, ⟨j0, j1, j2, j3⟩, k0, k1⟩ := hfs; go_simp; try with_reducible rfl)
  try simp only [Act.put, List.setIfInBounds_toArray, List.set_cons_zero, List.set_cons_succ]
  refine hTake (i := 17) (v := ?v17c) (some 53) rfl rfl (by kernel_rfl) (by kernel_rfl) (by kernel_rfl) (fun _ _ _ h => h) (by rfl) (by assumption) ?hy17c ?hn17c
  case hy17c => (intro w hSw; (try dsimp only at hSw); have hfs := HSF.out _ hSw; obtain ⟨⟨g0, g1, g2, g3⟩, ⟨h0, h1, h2, h3⟩, ⟨i0, i1, i2, i3⟩, ⟨j0, j1, j2, j3⟩, k0, k1⟩ := hfs; go_simp; try with_reducible rfl)
  try simp only [Act.put, List.setIfInBounds_toArray, List.set_cons_zero, List.set_cons_succ]
  refine hTake (i := 19) (v := ?v19c) (some 55) rfl rfl (by kernel_rfl) (by kernel_rfl) (by kernel_rfl) (fun _ _ _ h => h) (by rfl) (by assumption) ?hy19c ?hn19c
  case hy19c => (intro w hSw; (try dsimp only at hSw); have hfs := HSF.out _ hSw; obtain ⟨⟨g0, g1, g2, g3⟩, ⟨h0, h1, h2, h3⟩, ⟨i0, i1, i2, i3⟩, ⟨j0, j1, j2, j3⟩, k0, k1⟩ := hfs; go_simp; try with_reducible rfl)
  try simp only [Act.put, List.setIfInBounds_toArray, List.set_cons_zero, List.set_cons_succ]
  refine hTake (i := 20) (v := ?v20c) (some 56) rfl rfl (by kernel_rfl) (by kernel_rfl) (by kernel_rfl) (fun _ _ _ h => h) (by rfl) (by assumption) ?hy20c ?hn20c
  case hy20c => (intro w hSw; (try dsimp only at hSw); have hfs := HSF.out _ hSw; obtain ⟨⟨g0, g1, g2, g3⟩, ⟨h0, h1, h2, h3⟩, ⟨i0, i1, i2, i3⟩, ⟨j0, j1, j2, j3⟩, k0, k1⟩ := hfs; go_simp; try with_reducible rfl)
  try simp only [Act.put, List.setIfInBounds_toArray, List.set_cons_zero, List.set_cons_succ]
  refine hTake (i := 21) (v := ?v21c) (some 57) rfl rfl (by kernel_rfl) (by kernel_rfl) (by kernel_rfl) (fun _ _ _ h => h) (by rfl) (by assumption) ?hy21c ?hn21c
  case hy21c => (intro w hSw; (try dsimp only at hSw); have hfs := HSF.out _ hSw; obtain ⟨⟨g0, g1, g2, g3⟩, ⟨h0, h1, h2, h3⟩, ⟨i0, i1, i2, i3⟩, ⟨j0, j1, j2, j3⟩, k0, k1⟩ := hfs; go_simp; try with_reducible rfl)
  try simp only [Act.put, List.setIfInBounds_toArray, List.set_cons_zero, List.set_cons_succ]
  refine hTake (i := 22) (v := ?v22c) (some 58) rfl rfl (by kernel_rfl) (by kernel_rfl) (by kernel_rfl) (fun _ _ _ h => h) (by rfl) (by assumption) ?hy22c ?hn22c
  case hy22c => (intro w hSw; (try dsimp only at hSw); have hfs := HSF.out _ hSw; obtain ⟨⟨g0, g1, g2, g3⟩, ⟨h0, h1, h2, h3⟩, ⟨i0, i1, i2, i3⟩, ⟨j0, j1, j2, j3⟩, k0, k1⟩ := hfs; go_simp; try with_reducible rfl)
  try simp only [Act.put, List.setIfInBounds_toArray, List.set_cons_zero, List.set_cons_succ]
  refine hTake (i := 23) (v := ?v23c) (some 59) rfl rfl (by kernel_rfl) (by kernel_rfl) (by kernel_rfl) (fun _ _ _ h => h) (by rfl) (by assumption) ?hy23c ?hn23c
  case hy23c => (intro w hSw; (try dsimp only at hSw); have hfs := HSF.out _ hSw; obtain ⟨⟨g0, g1, g2, g3⟩, ⟨h0, h1, h2, h3⟩, ⟨i0, i1, i2, i3⟩, ⟨j0, j1, j2, j3⟩, k0, k1⟩ := hfs; go_simp; try with_reducible rfl)
  try simp only [Act.put, List.setIfInBounds_toArray, List.set_cons_zero, List.set_cons_succ]
  refine hTake (i := 24) (v := ?v24c) (some 60) rfl rfl (by kernel_rfl) (by kernel_rfl) (by kernel_rfl) (fun _ _ _ h => h) (by rfl) (by assumption) ?hy24c ?hn24c
  case hy24c => (intro w hSw; (try dsimp only at hSw); have hfs := HSF.out _ hSw; obtain ⟨⟨g0, g1, g2, g3⟩, ⟨h0, h1, h2, h3⟩, ⟨i0, i1, i2, i3⟩, ⟨j0, j1, j2, j3⟩, k0, k1⟩ := hfs; go_simp; try with_reducible rfl)
  try simp only [Act.put, List.setIfInBounds_toArray, List.set_cons_zero, List.set_cons_succ]
  refine hTake (i := 25) (v := ?v25c) (some 61) rfl rfl (by kernel_rfl) (by kernel_rfl) (by kernel_rfl) (fun _ _ _ h => h) (by rfl) (by assumption) ?hy25c ?hn25c
  case hy25c => (intro w hSw; (try dsimp only at hSw); have hfs := HSF.out _ hSw; obtain ⟨⟨g0, g1, g2, g3⟩, ⟨h0, h1, h2, h3⟩, ⟨i0, i1, i2, i3⟩, ⟨j0, j1, j2, j3⟩, k0, k1⟩ := hfs; go_simp; try with_reducible rfl)
  try simp only [Act.put, List.setIfInBounds_toArray, List.set_cons_zero, List.set_cons_succ]
  refine hTake (i := 26) (v := ?v26c) (some 62) rfl rfl (by kernel_rfl) (by kernel_rfl) (by kernel_rfl) (fun _ _ _ h => h) (by rfl) (by assumption) ?hy26c ?hn26c
  case hy26c => (intro w hSw; (try dsimp only at hSw); have hfs := HSF.out _ hSw; obtain ⟨⟨g0, g1, g2, g3⟩, ⟨h0, h1, h2, h3⟩, ⟨i0, i1, i2, i3⟩, ⟨j0, j1, j2, j3⟩, k0, k1⟩ := hfs; go_simp; try with_reducible rfl)
  try simp only [Act.put, List.setIfInBounds_toArray, List.set_cons_zero, List.set_cons_succ]
  refine hTake (i := 27) (v := ?v27c) (some 63) rfl rfl (by kernel_rfl) (by kernel_rfl) (by kernel_rfl) (fun _ _ _ h => h) (by rfl) (by assumption) ?hy27c ?hn27c
  case hy27c => (intro w hSw; (try dsimp only at hSw); have hfs := HSF.out _ hSw; obtain ⟨⟨g0, g1, g2, g3⟩, ⟨h0, h1, h2, h3⟩, ⟨i0, i1, i2, i3⟩, ⟨j0, j1, j2, j3⟩, k0, k1⟩ := hfs; go_simp; try with_reducible rfl)
  try simp only [Act.put, List.setIfInBounds_toArray, List.set_cons_zero, List.set_cons_succ]
  refine hTake (i := 28) (v := ?v28c) (some 64) rfl rfl (by kernel_rfl) (by kernel_rfl) (by kernel_rfl) (fun _ _ _ h => h) (by rfl) (by assumption) ?hy28c ?hn28c
  case hy28c => (intro w hSw; (try dsimp only at hSw); have hfs := HSF.out _ hSw; obtain ⟨⟨g0, g1, g2, g3⟩, ⟨h0, h1, h2, h3⟩, ⟨i0, i1, i2, i3⟩, ⟨j0, j1, j2, j3⟩, k0, k1⟩ := hfs; go_simp; try with_reducible rfl)
  try simp only [Act.put, List.setIfInBounds_toArray, List.set_cons_zero, List.set_cons_succ]
  refine hTake (i := 29) (v := ?v29c) (some 65) rfl rfl (by kernel_rfl) (by kernel_rfl) (by kernel_rfl) (fun _ _ _ h => h) (by rfl) (by assumption) ?hy29c ?hn29c
  case hy29c => (intro w hSw; (try dsimp only at hSw); have hfs := HSF.out _ hSw; obtain ⟨⟨g0, g1, g2, g3⟩, ⟨h0, h1, h2, h3⟩, ⟨i0, i1, i2, i3⟩, ⟨j0, j1, j2, j3⟩, k0, k1⟩ := hfs; go_simp; try with_reducible rfl)
  try simp only [Act.put, List.setIfInBounds_toArray, List.set_cons_zero, List.set_cons_succ]
  skip
  refine hOne (i := 30) rfl (by kernel_rfl) (fun K hK => ?_)
  go_simp
  refine (same_atC HL4.out W5 (HU5.out.below HQ5.out).is (HT5.out.below HQ5.out).is).mono ?_
  rintro e W6 ⟨rfl, hb⟩
  have HQ6 : Hid (Below V5.heap.size V5 W6) := hide (HQ5.out.trans (hb.mono HQ5.out.size))
  clear hb
  refine hK.out _ _ HQ6.out (fun hHeld => ?_)
  clear hK K
  try simp only [Act.put, List.setIfInBounds_toArray, List.set_cons_zero, List.set_cons_succ]
  refine hTake (i := 31) (v := ?v31c) (some 67) rfl rfl (by kernel_rfl) (by kernel_rfl) (by kernel_rfl) (fun _ _ _ h => h) (by rfl) (by assumption) ?hy31c ?hn31c
  case hy31c => (intro w hSw; (try dsimp only at hSw); have hfs := HSF.out _ hSw; obtain ⟨⟨g0, g1, g2, g3⟩, ⟨h0, h1, h2, h3⟩, ⟨i0, i1, i2, i3⟩, ⟨j0, j1, j2, j3⟩, k0, k1⟩ := hfs; go_simp; try with_reducible rfl)
  try simp only [Act.put, List.setIfInBounds_toArray, List.set_cons_zero, List.set_cons_succ]
  refine hTake (i := 32) (v := ?v32c) (some 68) rfl rfl (by kernel_rfl) (by kernel_rfl) (by kernel_rfl) (fun _ _ _ h => h) (by rfl) (by assumption) ?hy32c ?hn32c
  case hy32c => (intro w hSw; (try dsimp only at hSw); have hfs := HSF.out _ hSw; obtain ⟨⟨g0, g1, g2, g3⟩, ⟨h0, h1, h2, h3⟩, ⟨i0, i1, i2, i3⟩, ⟨j0, j1, j2, j3⟩, k0, k1⟩ := hfs; go_simp; try with_reducible rfl)
  try simp only [Act.put, List.setIfInBounds_toArray, List.set_cons_zero, List.set_cons_succ]
  refine hTake (i := 33) (v := ?v33c) (some 69) rfl rfl (by kernel_rfl) (by kernel_rfl) (by kernel_rfl) (fun _ _ _ h => h) (by rfl) (by assumption) ?hy33c ?hn33c
  case hy33c => (intro w hSw; (try dsimp only at hSw); have hfs := HSF.out _ hSw; obtain ⟨⟨g0, g1, g2, g3⟩, ⟨h0, h1, h2, h3⟩, ⟨i0, i1, i2, i3⟩, ⟨j0, j1, j2, j3⟩, k0, k1⟩ := hfs; go_simp; try with_reducible rfl)
  try simp only [Act.put, List.setIfInBounds_toArray, List.set_cons_zero, List.set_cons_succ]
  refine hTake (i := 34) (v := ?v34c) (some 70) rfl rfl (by kernel_rfl) (by kernel_rfl) (by kernel_rfl) (fun _ _ _ h => h) (by rfl) (by assumption) ?hy34c ?hn34c
  case hy34c => (intro w hSw; (try dsimp only at hSw); have hfs := HSF.out _ hSw; obtain ⟨⟨g0, g1, g2, g3⟩, ⟨h0, h1, h2, h3⟩, ⟨i0, i1, i2, i3⟩, ⟨j0, j1, j2, j3⟩, k0, k1⟩ := hfs; go_simp; try with_reducible rfl)
  try simp only [Act.put, List.setIfInBounds_toArray, List.set_cons_zero, List.set_cons_succ]
  refine hTake (i := 35) (v := ?v35c) (some 71) rfl rfl (by kernel_rfl) (by kernel_rfl) (by kernel_rfl) (fun _ _ _ h => h) (by rfl) (by assumption) ?hy35c ?hn35c
  case hy35c => (intro w hSw; (try dsimp only at hSw); have hfs := HSF.out _ hSw; obtain ⟨⟨g0, g1, g2, g3⟩, ⟨h0, h1, h2, h3⟩, ⟨i0, i1, i2, i3⟩, ⟨j0, j1, j2, j3⟩, k0, k1⟩ := hfs; go_simp; try with_reducible rfl)
  try simp only [Act.put, List.setIfInBounds_toArray, List.set_cons_zero, List.set_cons_succ]
  refine hTake (i := 36) (v := ?v36c) (some 72) rfl rfl (by kernel_rfl) (by kernel_rfl) (by kernel_rfl) (fun _ _ _ h => h) (by rfl) (by assumption) ?hy36c ?hn36c
  case hy36c => (intro w hSw; (try dsimp only at hSw); have hfs := HSF.out _ hSw; obtain ⟨⟨g0, g1, g2, g3⟩, ⟨h0, h1, h2, h3⟩, ⟨i0, i1, i2, i3⟩, ⟨j0, j1, j2, j3⟩, k0, k1⟩ := hfs; go_simp; try with_reducible rfl)
  try simp only [Act.put, List.setIfInBounds_toArray, List.set_cons_zero, List.set_cons_succ]
  refine hTake (i := 37) (v := ?v37c) (some 73) rfl rfl (by kernel_rfl) (by kernel_rfl) (by kernel_rfl) (fun _ _ _ h => h) (by rfl) (by assumption) ?hy37c ?hn37c
  case hy37c => (intro w hSw; (try dsimp only at hSw); have hfs := HSF.out _ hSw; obtain ⟨⟨g0, g1, g2, g3⟩, ⟨h0, h1, h2, h3⟩, ⟨i0, i1, i2, i3⟩, ⟨j0, j1, j2, j3⟩, k0, k1⟩ := hfs; go_simp; try with_reducible rfl)
  try simp only [Act.put, List.setIfInBounds_toArray, List.set_cons_zero, List.set_cons_succ]
  refine hTake (i := 38) (v := ?v38c) (some 74) rfl rfl (by kernel_rfl) (by kernel_rfl) (by kernel_rfl) (fun _ _ _ h => h) (by rfl) (by assumption) ?hy38c ?hn38c
  case hy38c => (intro w hSw; (try dsimp only at hSw); have hfs := HSF.out _ hSw; obtain ⟨⟨g0, g1, g2, g3⟩, ⟨h0, h1, h2, h3⟩, ⟨i0, i1, i2, i3⟩, ⟨j0, j1, j2, j3⟩, k0, k1⟩ := hfs; go_simp; try with_reducible rfl)
  try simp only [Act.put, List.setIfInBounds_toArray, List.set_cons_zero, List.set_cons_succ]
  refine hTake (i := 39) (v := ?v39c) (some 75) rfl rfl (by kernel_rfl) (by kernel_rfl) (by kernel_rfl) (fun _ _ _ h => h) (by rfl) (by assumption) ?hy39c ?hn39c
  case hy39c => (intro w hSw; (try dsimp only at hSw); have hfs := HSF.out _ hSw; obtain ⟨⟨g0, g1, g2, g3⟩, ⟨h0, h1, h2, h3⟩, ⟨i0, i1, i2, i3⟩, ⟨j0, j1, j2, j3⟩, k0, k1⟩ := hfs; go_simp; try with_reducible rfl)
  try simp only [Act.put, List.setIfInBounds_toArray, List.set_cons_zero, List.set_cons_succ]
  skip
  refine hOne (i := 40) rfl (by kernel_rfl) (fun K hK => ?_)
  go_simp
  refine (same_atC HLF.out W6 (HY5.out.below HQ6.out).is (HX5.out.below HQ6.out).is).mono ?_
  rintro e W7 ⟨rfl, hb⟩
  have HQ7 : Hid (Below V5.heap.size V5 W7) := hide (HQ6.out.trans (hb.mono HQ6.out.size))
  clear hb
  refine hK.out _ _ HQ7.out (fun hHeld => ?_)
  clear hK K
  try simp only [Act.put, List.setIfInBounds_toArray, List.set_cons_zero, List.set_cons_succ]
  refine hTake (i := 41) (v := ?v41c) (some 77) rfl rfl (by kernel_rfl) (by kernel_rfl) (by kernel_rfl) (fun _ _ _ h => h) (by rfl) (by assumption) ?hy41c ?hn41c
  case hy41c => (intro w hSw; (try dsimp only at hSw); have hfs := HSF.out _ hSw; obtain ⟨⟨g0, g1, g2, g3⟩, ⟨h0, h1, h2, h3⟩, ⟨i0, i1, i2, i3⟩, ⟨j0, j1, j2, j3⟩, k0, k1⟩ := hfs; go_simp; try with_reducible rfl)
  try simp only [Act.put, List.setIfInBounds_toArray, List.set_cons_zero, List.set_cons_succ]
  refine hOne (i := 42) rfl (by kernel_rfl) (fun K hK => ?_)
  go_simp
  refine hK.out _ _ HQ7.out (fun hHeld => ?_)
  clear hK K
  try simp only [Act.put, List.setIfInBounds_toArray, List.set_cons_zero, List.set_cons_succ]
  refine wpAnyH_done (by kernel_rfl) ?_ _
  have HF : Hid (Below w.heap.size w W7) := hide (HB5.out.trans (HQ7.out.mono HB5.out.size))
  go_wp2
  go_ret
  exact ⟨rfl, HF.out⟩
end Go.Proofs.Ytebikoekpbnpbaa

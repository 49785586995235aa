/- the document's Cut -/
import Derived.Test.YtebikoekpbnpbaaDJ
namespace Go.Proofs.Ytebikoekpbnpbaa
open Go.RowKit Cod
set_option maxRecDepth 100000
set_option linter.unusedVariables false
set_option linter.unusedSimpArgs false
theorem RowT.setX {w : World} {base n X : Nat} {v : Value} {xs : List Value} {L : List (List Nat)} (h : RowT w base n v xs L) {cs : Array Value} {f : Nat × Nat} (hX : w.heap[X]? = some (.cells cs 25 f)) (j : Nat) (u : Value) : RowT (w.setCell ⟨X, j, none⟩ u) base n v xs L := h.kept (by simp [World.setCell]) (fun b cs' t f' _ ht hb => Below.heap_setCell _ _ _ _ (fun e => by
  have e' : b = X := e
  rw [e', hX] at hb
  cases hb
  rcases ht with ht | ht <;> cases ht))
/-- a page whose lists lie in new memory -/
structure PgT (w : World) (G : Nat) (v : Pv) (p : Pg) : Prop where
  k : ∃ xs, RowT w G v.kn (.slice v.ka v.kn v.kc) xs p.keys
  x : ∃ xs, RowT w G v.vn (.slice v.va v.vn v.vc) xs p.vals
  i : v.inn = 0 ∧ p.kids = [] ∧ v.inn ≤ v.ic ∧ v.ic ≤ maxLen ∧ (v.ia = none → v.ic = 0)
  l : p.keys.length = v.kn ∧ p.vals.length = v.vn
theorem PgT.is {w : World} {G : Nat} {v : Pv} {p : Pg} (h : PgT w G v p) : IsG w v p := by
  obtain ⟨xs, hk⟩ := h.k
  obtain ⟨ys, hx⟩ := h.x
  obtain ⟨a, c, e, hL, _⟩ := hk.isL h.l.1
  obtain ⟨a', c', e', hL', _⟩ := hx.isL h.l.2
  cases e
  cases e'
  exact ⟨hL, hL', by rw [h.i.2.1]; exact h.i.1.symm, h.i.2.2.1, h.i.2.2.2.1, h.i.2.2.2.2, fun i hi => by have := h.i.1; omega⟩
theorem PgT.below {w w' : World} {G : Nat} {v : Pv} {p : Pg} (h : PgT w G v p) (hb : Below w.heap.size w w') : PgT w' G v p := by
  obtain ⟨xs, hk⟩ := h.k
  obtain ⟨ys, hx⟩ := h.x
  exact ⟨⟨xs, hk.below hb⟩, ⟨ys, hx.below hb⟩, h.i, h.l⟩
theorem PgT.set4 {w : World} {G B : Nat} {v : Pv} {p : Pg} (h : PgT w G v p) (hB : B < G) (a b c d : Value) : PgT (set4 w B a b c d) G v p := by
  obtain ⟨xs, hk⟩ := h.k
  obtain ⟨ys, hx⟩ := h.x
  exact ⟨⟨xs, hk.set4 hB _ _ _ _⟩, ⟨ys, hx.set4 hB _ _ _ _⟩, h.i, h.l⟩
theorem Cpy.pgT {w : World} {G : Nat} {v : Pv} {p : Pg} {xs ys : List Value} {M : Nat} (h : Cpy w G v p xs ys M) (hk : p.kids = []) : PgT w G v p := by
  have hi := h.ki
  rw [hk] at hi
  exact ⟨⟨xs, h.rk⟩, ⟨ys, h.rv⟩, ⟨hi.1.symm, hk, hi.2.1, hi.2.2.1, hi.2.2.2.1⟩, h.lk⟩
theorem leafE_few {p : Pg} (h : leafE p = 0) : p.kids = [] ∧ p.vals.length = p.keys.length := by
  have hb := leaf_of (leafE_0 h).1 (leafE_0 h).2
  exact ⟨by have := (leaf_eq hb).1; rw [this], (leaf_eq hb).2⟩
set_option maxHeartbeats 4000000 in
/-- ladingref06.Cut -/
theorem rcut_any (v : Pv) (p : Pg) (xa : Option Addr) (xn xc : Nat) (key : List Nat) (w : World) (h : IsG w v p) (hc : FewP v) (hk : IsB w xa xn xc key) :
    Calls Try.prog 28 #[.agg (pgc p.leaf v), .slice xa xn xc] w fun e w' => ∃ v', e = .returned (.tuple #[.agg (pgc (cutR p key).1.leaf v'), .bool (cutR p key).2.1, .int .i64 (cutR p key).2.2]) ∧ IsG w' v' (cutR p key).1 ∧ Below w.heap.size w w' := by
  obtain ⟨V0, hV0⟩ : ∃ V0, V0 = (w.alloc (.cells (pgc p.leaf v) 25)).alloc (.cells pg0c 25) := ⟨_, rfl⟩
  have HB0 : Hid (Below w.heap.size w V0) := hide (by rw [hV0]; exact ((Below.refl _ w).alloc (Nat.le_refl _) _).alloc (by simp) _)
  have HX : Hid (V0.heap[w.heap.size]? = some (.cells (pgc p.leaf v) 25 (0, 0))) := hide (by rw [hV0, heap_al, heap_al, World.size_alloc, if_neg (by omega), if_pos rfl])
  have HY : Hid (V0.heap[w.heap.size + 1]? = some (.cells pg0c 25 (0, 0))) := hide (by rw [hV0, heap_al, World.size_alloc, if_pos rfl])
  have HCK := hide (rcheck_any v p V0 (h.below HB0.out) hc)
  have HG := hide h
  have HK := hide hk
  have HFW := hide hc
  have HLN : Hid (p.keys.length = v.kn ∧ p.vals.length = v.vn) := hide ⟨h.keys.1, h.vals.1⟩
  obtain ⟨R, hR⟩ : ∃ R, R = cutR p key := ⟨_, rfl⟩
  rw [← hR]
  have HR := hide hR
  clear hR h hc hk
  obtain ⟨lf, hlf⟩ : ∃ lf, lf = p.leaf := ⟨_, rfl⟩
  rw [← hlf] at HX HCK hV0 ⊢
  have HLF := hide hlf
  clear hlf
  obtain ⟨E, hE⟩ : ∃ E, E = checkE p := ⟨_, rfl⟩
  rw [← hE] at HCK
  have HE := hide hE
  clear hE
  obtain ⟨ka, kn, kc, va, vn, vc, ia, inn, ic⟩ := v
  try dsimp only at HX HCK hV0 HLN
  try dsimp only
  obtain ⟨q0, q1, q2, q3⟩ := BlkG.cells (v := ⟨ka, kn, kc, va, vn, vc, ia, inn, ic⟩) HX.out
  try dsimp only at q0 q1 q2 q3
  go_enter Try.func28, Try.ntmps28
  go_wp2_with fail
  try rw [← hV0]
  clear hV0
  refine HCK.out.mono ?_
  rintro e w1 ⟨rfl, hb1⟩
  have HB1 : Hid (Below w.heap.size w w1) := hide (HB0.out.trans (hb1.mono HB0.out.size))
  have HX1 : Hid (BlkG w1 w.heap.size lf ⟨ka, kn, kc, va, vn, vc, ia, inn, ic⟩) := hide ((hb1.block _ (heap_ltN HX.out)).trans HX.out)
  have HY1 : Hid (w1.heap[w.heap.size + 1]? = some (.cells #[.bool false, .slice none 0 0, .slice none 0 0, .slice none 0 0] 25 (0, 0))) := hide ((hb1.block _ (heap_ltN HY.out)).trans HY.out)
  clear hb1 HCK q0 q1 q2 q3 HX HY HB0
  obtain ⟨q0, q1, q2, q3⟩ := BlkG.cells HX1.out
  try dsimp only at q0 q1 q2 q3
  have y0 : w1.cell? ⟨w.heap.size + 1, 0, none⟩ = some (.bool false) := cell_blkN HY1.out rfl
  have y1 : w1.cell? ⟨w.heap.size + 1, 1, none⟩ = some (.slice none 0 0) := cell_blkN HY1.out rfl
  have y2 : w1.cell? ⟨w.heap.size + 1, 2, none⟩ = some (.slice none 0 0) := cell_blkN HY1.out rfl
  have y3 : w1.cell? ⟨w.heap.size + 1, 3, none⟩ = some (.slice none 0 0) := cell_blkN HY1.out rfl
  have f0 := frzN HY1.out 0
  have f1 := frzN HY1.out 1
  have f2 := frzN HY1.out 2
  have f3 := frzN HY1.out 3
  by_cases h0 : E = 0
  case neg =>
    have hx1 : (E == (0 : Int)) = false := by simpa using h0
    have hx2 : (E != (0 : Int)) = true := by simpa using h0
    have HF : Hid (R = (Pg0, false, E)) := hide (by
      have e1 : leafE p = E := by unfold leafE; rw [← HE.out, if_neg h0]
      rw [HR.out]; unfold cutR; rw [e1, if_neg h0])
    go_wp2
    (try simp only [Exit.inBlock, Exit.then])
    refine bodyPost_ret (resP3 rfl _ _ (w.heap.size + 1) #[.bool false, .slice none 0 0, .slice none 0 0, .slice none 0 0] (blk4 HY1.out _ _ _ _) rfl rfl) rfl ?_
    exact ⟨Pv0, by rw [HF.out]; rfl, by rw [HF.out]; exact isG_0 _, below4 HB1.out (by omega) _ _ _ _⟩
  case pos =>
  subst h0
  cases lf with
  | false =>
    have HF : Hid (R = (Pg0, false, 15)) := hide (by
      have e1 : leafE p = 15 := by unfold leafE; rw [← HE.out, if_pos rfl, ← HLF.out, if_neg (by decide)]
      rw [HR.out]; unfold cutR; rw [e1, if_neg (by decide)])
    go_wp2
    (try simp only [Exit.inBlock, Exit.then])
    refine bodyPost_ret (resP3 rfl _ _ (w.heap.size + 1) #[.bool false, .slice none 0 0, .slice none 0 0, .slice none 0 0] (blk4 HY1.out _ _ _ _) rfl rfl) rfl ?_
    exact ⟨Pv0, by rw [HF.out]; rfl, by rw [HF.out]; exact isG_0 _, below4 HB1.out (by omega) _ _ _ _⟩
  | true =>
    have HLE : Hid (leafE p = 0) := hide (leafE_of HE.out.symm HLF.out.symm)
    have HRR : Hid (R = (cutP p key, hasK p.keys key, 0)) := hide (by rw [HR.out]; unfold cutR; rw [if_pos HLE.out])
    have HKS := hide (kind_short (check_kind HE.out.symm))
    have HCP := hide (rcopy_any ⟨ka, kn, kc, va, vn, vc, ia, inn, ic⟩ p w1 (HG.out.below HB1.out) HFW.out ⟨fun b hb => Nat.le_trans (HKS.out.1 b hb) (by decide), fun b hb => Nat.le_trans (HKS.out.2.1 b hb) (by decide)⟩ true)
    clear y0 y1 y2 y3 f0 f1 f2 f3
    try dsimp only at HCP
    go_wp2_with fail
    refine HCP.out.mono ?_
    rintro e w2 ⟨v2, xs, ys, M, rfl, hcp, hkn, hvn, hin, hb2⟩
    have HT2 := hide (hcp.pgT (leafE_few HLE.out).1)
    obtain ⟨k2, n2, c2, x2, m2, d2, i2, j2, l2⟩ := v2
    dsimp only at hkn hvn hin
    subst hkn hvn hin
    obtain ⟨X, hX⟩ : ∃ X, X = w2.heap.size := ⟨_, rfl⟩
    obtain ⟨V2, hV2⟩ : ∃ V2, V2 = w2.alloc (.cells (pgc true ⟨k2, n2, c2, x2, m2, d2, i2, j2, l2⟩) 25) := ⟨_, rfl⟩
    have hbv : Below w2.heap.size w2 V2 := by rw [hV2]; exact (Below.refl _ w2).alloc (Nat.le_refl _) _
    have HB2 : Hid (Below w1.heap.size w1 V2) := hide (hb2.trans (hbv.mono hb2.size))
    have HX2 : Hid (BlkG V2 X true ⟨k2, n2, c2, x2, m2, d2, i2, j2, l2⟩) := hide (by show V2.heap[X]? = _; rw [hV2, hX]; exact heap_alloc_new _ _)
    have HTV := hide (HT2.out.below hbv)
    have HXG : Hid (w1.heap.size ≤ X) := hide (by rw [hX]; exact hb2.size)
    have HBW := hide (rbelow_any ⟨k2, n2, c2, x2, m2, d2, i2, j2, l2⟩ p xa xn xc key V2 HTV.out.is ⟨HFW.out.1, HFW.out.2.1, HFW.out.2.2⟩ ((HK.out.below HB1.out).below HB2.out) true)
    clear hcp hb2 hbv HCP HT2 q0 q1 q2 q3
    go_wp2_with fail
    try rw [← hV2]
    try rw [← hX]
    clear hV2 hX
    refine HBW.out.mono ?_
    rintro e w3 ⟨rfl, hb3⟩
    have HB3 : Hid (Below w1.heap.size w1 w3) := hide (HB2.out.trans (hb3.mono HB2.out.size))
    have HX3 : Hid (w3.heap[X]? = some (.cells #[.bool true, .slice k2 n2 c2, .slice x2 m2 d2, .slice i2 j2 l2] 25 (0, 0))) := hide ((hb3.block _ (heap_ltN HX2.out)).trans HX2.out)
    have HT3 := hide (HTV.out.below hb3)
    clear hb3 HBW HTV HX2 HB2
    have HSB : Hid (w.heap.size + 1 < w1.heap.size) := hide (heap_ltN HY1.out)
    obtain ⟨is, his⟩ : ∃ b, b = hasK p.keys key := ⟨_, rfl⟩
    obtain ⟨lo, hlo⟩ : ∃ b, b = lowK p.keys key := ⟨_, rfl⟩
    rw [← his, ← hlo]
    rw [← his] at HRR
    have HIS := hide (And.intro his hlo)
    clear his hlo
    cases is with
    | false =>
      have HCU : Hid (cutP p key = ⟨true, p.keys, p.vals, []⟩) := hide (by unfold cutP; rw [← HIS.out.1, if_neg (by decide)])
      have HYf : Hid (w3.heap[w.heap.size + 1]? = some (.cells #[.bool false, .slice none 0 0, .slice none 0 0, .slice none 0 0] 25 (0, 0))) := hide ((HB3.out.block _ (heap_ltN HY1.out)).trans HY1.out)
      have x0' : w3.cell? ⟨X, 0, none⟩ = some (.bool true) := cell_blkN HX3.out rfl
      have x1' : w3.cell? ⟨X, 1, none⟩ = some (.slice k2 n2 c2) := cell_blkN HX3.out rfl
      have x2' : w3.cell? ⟨X, 2, none⟩ = some (.slice x2 m2 d2) := cell_blkN HX3.out rfl
      have x3' : w3.cell? ⟨X, 3, none⟩ = some (.slice i2 j2 l2) := cell_blkN HX3.out rfl
      have y0 : w3.cell? ⟨w.heap.size + 1, 0, none⟩ = some (.bool false) := cell_blkN HYf.out rfl
      have f0 := frzN HYf.out 0
      have y1 : w3.cell? ⟨w.heap.size + 1, 1, none⟩ = some (.slice none 0 0) := cell_blkN HYf.out rfl
      have f1 := frzN HYf.out 1
      have y2 : w3.cell? ⟨w.heap.size + 1, 2, none⟩ = some (.slice none 0 0) := cell_blkN HYf.out rfl
      have f2 := frzN HYf.out 2
      have y3 : w3.cell? ⟨w.heap.size + 1, 3, none⟩ = some (.slice none 0 0) := cell_blkN HYf.out rfl
      have f3 := frzN HYf.out 3
      have HFI : Hid (IsG (set4 w3 (w.heap.size + 1) (.bool true) (.slice k2 n2 c2) (.slice x2 m2 d2) (.slice i2 j2 l2)) ⟨k2, n2, c2, x2, m2, d2, i2, j2, l2⟩ ⟨true, p.keys, p.vals, []⟩) := hide (by
        have h1 := (HT3.out.set4 (B := w.heap.size + 1) (by have := HSB.out; omega) (.bool true) (.slice k2 n2 c2) (.slice x2 m2 d2) (.slice i2 j2 l2)).is
        exact ⟨h1.keys, h1.vals, by have h2 := h1.kids; rw [(leafE_few HLE.out).1] at h2; exact h2⟩)
      have HBF : Hid (Below w.heap.size w (set4 w3 (w.heap.size + 1) (.bool true) (.slice k2 n2 c2) (.slice x2 m2 d2) (.slice i2 j2 l2))) := hide (below4 (HB1.out.trans (HB3.out.mono HB1.out.size)) (by omega) _ _ _ _)
      clear HT3
      go_wp2
      (try simp only [Exit.inBlock, Exit.then])
      refine bodyPost_ret (resP3 rfl _ _ (w.heap.size + 1) #[.bool true, .slice k2 n2 c2, .slice x2 m2 d2, .slice i2 j2 l2] (blk4 HYf.out _ _ _ _) rfl rfl) rfl ?_
      exact ⟨⟨k2, n2, c2, x2, m2, d2, i2, j2, l2⟩, by rw [HRR.out, HCU.out]; rfl, by rw [HRR.out, HCU.out]; exact HFI.out, HBF.out⟩
    | true =>
      have HLO : Hid (lo < n2 ∧ p.keys.length = n2 ∧ p.vals.length = n2 ∧ m2 = n2 ∧ n2 ≤ 2000000) := hide (by
        have h1 := hasK_at (l := p.keys) (k := key) HIS.out.1.symm
        rw [← HIS.out.2, HLN.out.1] at h1
        have h2 := (leafE_few HLE.out).2
        have h3 : n2 ≤ 2000000 := HFW.out.1
        have h4 := HLN.out.1
        have h5 := HLN.out.2
        omega)
      have HCU : Hid (cutP p key = ⟨true, delL p.keys lo, delL p.vals lo, []⟩) := hide (by unfold cutP; rw [← HIS.out.1, if_pos rfl, ← HIS.out.2])
      obtain ⟨xs3, hr1⟩ := HT3.out.k
      obtain ⟨ys3, hr2⟩ := HT3.out.x
      have HR1 := hide hr1
      have HR2 := hide hr2
      clear hr1 hr2
      dsimp only at HR1 HR2
      obtain rfl : m2 = n2 := HLO.out.2.2.2.1
      obtain ⟨b1, rfl⟩ : ∃ b1, k2 = some ⟨b1, 0, none⟩ := by
        rcases HR1.out.own.2 with ⟨e, e0⟩ | ⟨g, cap, cur, e, _⟩
        · have := HLO.out.1; omega
        · cases e; exact ⟨g, rfl⟩
      obtain ⟨b2, rfl⟩ : ∃ b2, x2 = some ⟨b2, 0, none⟩ := by
        rcases HR2.out.own.2 with ⟨e, e0⟩ | ⟨g, cap, cur, e, _⟩
        · have := HLO.out.1; omega
        · cases e; exact ⟨g, rfl⟩
      have HBS : Hid (w1.heap.size + 2 ≤ w3.heap.size) := hide (by
        rcases HR1.out.own.2 with ⟨e, e0⟩ | ⟨g, cap, cur, e, hb, hg, _⟩
        · have := HLO.out.1; omega
        · have := heap_ltN hg; omega)
      have HW1 := hide (rwithout_T b1 0 m2 c2 lo (w1.heap.size + 2) xs3 p.keys w3 HR1.out HLO.out.2.1 HLO.out.2.2.2.2 HLO.out.1 HBS.out)
      have x1' : w3.cell? ⟨X, 1, none⟩ = some (.slice (some ⟨b1, 0, none⟩) m2 c2) := cell_blkN HX3.out rfl
      go_wp2_with fail
      refine HW1.out.mono ?_
      rintro e w4 ⟨a4, c4, rfl, hR4, hN4, hb4⟩
      have HX4 : Hid (w4.heap[X]? = some (.cells #[.bool true, .slice (some ⟨b1, 0, none⟩) m2 c2, .slice (some ⟨b2, 0, none⟩) m2 d2, .slice i2 j2 l2] 25 (0, 0))) := hide ((hb4.block _ (heap_ltN HX3.out)).trans HX3.out)
      obtain ⟨W4, hW4⟩ : ∃ W, W = w4.setCell ⟨X, 1, none⟩ (.slice a4 (m2 - 1) c4) := ⟨_, rfl⟩
      have HB4 : Hid (Below w1.heap.size w1 W4) := hide (by rw [hW4]; have := HB3.out.trans (hb4.mono HB3.out.size); exact this.setCell HXG.out _)
      have HX5 : Hid (W4.heap[X]? = some (.cells #[.bool true, .slice a4 (m2 - 1) c4, .slice (some ⟨b2, 0, none⟩) m2 d2, .slice i2 j2 l2] 25 (0, 0))) := hide (by rw [hW4, blk_setN HX4.out]; rfl)
      have HR4 := hide (by have := hR4.setX HX4.out 1 (.slice a4 (m2 - 1) c4); rw [← hW4] at this; exact this)
      have HR5 := hide (by have := (HR2.out.below hb4).setX HX4.out 1 (.slice a4 (m2 - 1) c4); rw [← hW4] at this; exact this)
      have HSZ4 : Hid (w1.heap.size + 2 ≤ W4.heap.size) := hide (by rw [hW4]; have h1 := hb4.size; have h2 := HBS.out; have h3 : (w4.setCell ⟨X, 1, none⟩ (.slice a4 (m2 - 1) c4)).heap.size = w4.heap.size := by simp [World.setCell]
                                                                    omega)
      have HW2 := hide (rwithout_T b2 0 m2 d2 lo (w1.heap.size + 2) ys3 p.vals W4 HR5.out HLO.out.2.2.1 HLO.out.2.2.2.2 HLO.out.1 HSZ4.out)
      have z1 : w4.cell? ⟨X, 1, none⟩ = some (.slice (some ⟨b1, 0, none⟩) m2 c2) := cell_blkN HX4.out rfl
      have g1 := frzN HX4.out 1
      have x2' : W4.cell? ⟨X, 2, none⟩ = some (.slice (some ⟨b2, 0, none⟩) m2 d2) := cell_blkN HX5.out rfl
      rw [hW4] at x2'
      clear hR4 hN4 hb4 x1' HW1
      go_wp2_with fail
      try rw [← hW4]
      clear hW4 z1 g1 x2'
      refine HW2.out.mono ?_
      rintro e w6 ⟨a6, c6, rfl, hR6, hN6, hb6⟩
      have HX6 : Hid (w6.heap[X]? = some (.cells #[.bool true, .slice a4 (m2 - 1) c4, .slice (some ⟨b2, 0, none⟩) m2 d2, .slice i2 j2 l2] 25 (0, 0))) := hide ((hb6.block _ (heap_ltN HX5.out)).trans HX5.out)
      obtain ⟨W6, hW6⟩ : ∃ W, W = w6.setCell ⟨X, 2, none⟩ (.slice a6 (m2 - 1) c6) := ⟨_, rfl⟩
      have HB6 : Hid (Below w1.heap.size w1 W6) := hide (by rw [hW6]; have := HB4.out.trans (hb6.mono HB4.out.size); exact this.setCell HXG.out _)
      have HX7 : Hid (W6.heap[X]? = some (.cells #[.bool true, .slice a4 (m2 - 1) c4, .slice a6 (m2 - 1) c6, .slice i2 j2 l2] 25 (0, 0))) := hide (by rw [hW6, blk_setN HX6.out]; rfl)
      have HY6 : Hid (W6.heap[w.heap.size + 1]? = some (.cells #[.bool false, .slice none 0 0, .slice none 0 0, .slice none 0 0] 25 (0, 0))) := hide ((HB6.out.block _ (heap_ltN HY1.out)).trans HY1.out)
      have HT6 : Hid (PgT W6 (w1.heap.size + 2) ⟨a4, m2 - 1, c4, a6, m2 - 1, c6, i2, j2, l2⟩ ⟨true, delL p.keys lo, delL p.vals lo, []⟩) := hide (by
        have h1 := (HR4.out.below hb6).setX HX6.out 2 (.slice a6 (m2 - 1) c6)
        have h2 := hR6.setX HX6.out 2 (.slice a6 (m2 - 1) c6)
        rw [← hW6] at h1 h2
        have h3 := HT3.out.i
        dsimp only at h3
        exact ⟨⟨_, h1⟩, ⟨_, h2⟩, ⟨h3.1, rfl, h3.2.2⟩, by show (delL p.keys lo).length = _; rw [delL_len (by rw [HLO.out.2.1]; exact HLO.out.1), HLO.out.2.1], by show (delL p.vals lo).length = _; rw [delL_len (by rw [HLO.out.2.2.1]; exact HLO.out.1), HLO.out.2.2.1]⟩)
      have z2 : w6.cell? ⟨X, 2, none⟩ = some (.slice (some ⟨b2, 0, none⟩) m2 d2) := cell_blkN HX6.out rfl
      have g2 := frzN HX6.out 2
      have HYf : Hid (W6.heap[w.heap.size + 1]? = some (.cells #[.bool false, .slice none 0 0, .slice none 0 0, .slice none 0 0] 25 (0, 0))) := hide (HY6.out)
      have x0' : W6.cell? ⟨X, 0, none⟩ = some (.bool true) := cell_blkN HX7.out rfl
      have x1' : W6.cell? ⟨X, 1, none⟩ = some (.slice a4 (m2 - 1) c4) := cell_blkN HX7.out rfl
      have x2' : W6.cell? ⟨X, 2, none⟩ = some (.slice a6 (m2 - 1) c6) := cell_blkN HX7.out rfl
      have x3' : W6.cell? ⟨X, 3, none⟩ = some (.slice i2 j2 l2) := cell_blkN HX7.out rfl
      have y0 : W6.cell? ⟨w.heap.size + 1, 0, none⟩ = some (.bool false) := cell_blkN HYf.out rfl
      have f0 := frzN HYf.out 0
      have y1 : W6.cell? ⟨w.heap.size + 1, 1, none⟩ = some (.slice none 0 0) := cell_blkN HYf.out rfl
      have f1 := frzN HYf.out 1
      have y2 : W6.cell? ⟨w.heap.size + 1, 2, none⟩ = some (.slice none 0 0) := cell_blkN HYf.out rfl
      have f2 := frzN HYf.out 2
      have y3 : W6.cell? ⟨w.heap.size + 1, 3, none⟩ = some (.slice none 0 0) := cell_blkN HYf.out rfl
      have f3 := frzN HYf.out 3
      have HFI : Hid (IsG (set4 W6 (w.heap.size + 1) (.bool true) (.slice a4 (m2 - 1) c4) (.slice a6 (m2 - 1) c6) (.slice i2 j2 l2)) ⟨a4, m2 - 1, c4, a6, m2 - 1, c6, i2, j2, l2⟩ ⟨true, delL p.keys lo, delL p.vals lo, []⟩) := hide (HT6.out.set4 (B := w.heap.size + 1) (by have := HSB.out; omega) _ _ _ _).is
      have HBF : Hid (Below w.heap.size w (set4 W6 (w.heap.size + 1) (.bool true) (.slice a4 (m2 - 1) c4) (.slice a6 (m2 - 1) c6) (.slice i2 j2 l2))) := hide (below4 (HB1.out.trans (HB6.out.mono HB1.out.size)) (by omega) _ _ _ _)
      have HBK : Hid ((set4 W6 (w.heap.size + 1) (.bool true) (.slice a4 (m2 - 1) c4) (.slice a6 (m2 - 1) c6) (.slice i2 j2 l2)).heap[w.heap.size + 1]? = some (.cells #[.bool true, .slice a4 (m2 - 1) c4, .slice a6 (m2 - 1) c6, .slice i2 j2 l2] 25 (0, 0))) := hide (blk4 HYf.out _ _ _ _)
      clear hR6 hN6 hb6 HW2 HT3 HT6 HR4 HR5
      rw [hW6] at x0' x1' x2' x3' y0 y1 y2 y3 f0 f1 f2 f3 HFI HBF HBK
      go_wp2
      (try simp only [Exit.inBlock, Exit.then])
      refine bodyPost_ret (resP3 rfl _ _ (w.heap.size + 1) #[.bool true, .slice a4 (m2 - 1) c4, .slice a6 (m2 - 1) c6, .slice i2 j2 l2] HBK.out rfl rfl) rfl ?_
      exact ⟨⟨a4, m2 - 1, c4, a6, m2 - 1, c6, i2, j2, l2⟩, by rw [HRR.out, HCU.out]; rfl, by rw [HRR.out, HCU.out]; exact HFI.out, HBF.out⟩
end Go.Proofs.Ytebikoekpbnpbaa

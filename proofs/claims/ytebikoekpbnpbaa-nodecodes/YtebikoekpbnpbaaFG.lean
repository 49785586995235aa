/- readPage -/
import Derived.Test.YtebikoekpbnpbaaFF
import Derived.Test.YtebikoekpbnpbaaDJ
namespace Go.Proofs.Ytebikoekpbnpbaa
open Go.RowKit Cod
set_option maxRecDepth 100000
set_option linter.unusedVariables false
set_option linter.unusedSimpArgs false
/-- what readPage answers -/
def Page38 (T : List Nat) (w : World) (e : Ending) (w' : World) : Prop := ∃ (v : Pv) (p : Pg) (ok : Bool), e = .returned (.tuple #[.agg (pgc p.leaf v), .bool ok]) ∧ NwG w' w.heap.size v p ∧ FewP v ∧ ((∀ b ∈ p.keys, b.length ≤ 1024) ∧ ∀ b ∈ p.vals, b.length ≤ 1024) ∧ (∀ q pad, checkE q = 0 → T = textP q ++ pad → ok = true ∧ p = q) ∧ Below w.heap.size w w'
theorem textP_leaf {q : Pg} (h : q.leaf = true) : textP q = 1 :: (num q.keys.length ++ restL q 0) := by unfold textP; rw [if_pos h, ltx_rest]
theorem textP_inner {q : Pg} (h : q.leaf = false) : textP q = 2 :: (num q.keys.length ++ (num (q.kids.getD 0 0).toNat ++ restI q 0)) := by unfold textP; rw [h, if_neg (by decide), itx_rest]
theorem few_num {q : Pg} (h : checkE q = 0) : q.keys.length < 18446744073709551616 := by have := (check_few h).1; omega
/-- the first byte tells which, the number how many -/
theorem head_leaf {T R1 pad : List Nat} {m : Nat} {b1 : Bool} (hn : numS (T.drop 1) false m R1 b1) {q : Pg} (hq : checkE q = 0) (hl : q.leaf = true) (hT : T = textP q ++ pad) : T.getD 0 0 = 1 ∧ m = q.keys.length ∧ R1 = restL q 0 ++ pad ∧ b1 = false := by
  rw [hT, textP_leaf hl] at hn ⊢
  simp only [List.cons_append, List.drop_succ_cons, List.drop_zero, List.append_assoc] at hn
  obtain ⟨h1, h2, h3⟩ := numS_num (few_num hq) hn
  exact ⟨rfl, h1, h2, h3⟩
theorem head_inner {T R1 pad : List Nat} {m : Nat} {b1 : Bool} (hn : numS (T.drop 1) false m R1 b1) {q : Pg} (hq : checkE q = 0) (hl : q.leaf = false) (hT : T = textP q ++ pad) : T.getD 0 0 = 2 ∧ m = q.keys.length ∧ R1 = num (q.kids.getD 0 0).toNat ++ (restI q 0 ++ pad) ∧ b1 = false := by
  rw [hT, textP_inner hl] at hn ⊢
  simp only [List.cons_append, List.drop_succ_cons, List.drop_zero, List.append_assoc] at hn
  obtain ⟨h1, h2, h3⟩ := numS_num (few_num hq) hn
  exact ⟨rfl, h1, h2, h3⟩
theorem pageQ_leaf {T R1 : List Nat} {m : Nat} {b1 b2 : Bool} {keys vals : List (List Nat)} (hn : numS (T.drop 1) false m R1 b1) (h0 : 1 = T.getD 0 0) (hq : b1 = false → ∀ q pad, checkE q = 0 → q.leaf = true → q.keys.length = m → R1 = restL q 0 ++ pad → keys = q.keys ∧ vals = q.vals ∧ b2 = false) : ∀ q pad, checkE q = 0 → T = textP q ++ pad → (!b2) = true ∧ (⟨true, keys, vals, []⟩ : Pg) = q := fun q pad h1 h2 => by
  cases hl : q.leaf with
  | false =>
    have := (head_inner hn h1 hl h2).1
    rw [← h0] at this
    cases this
  | true =>
    obtain ⟨_, e1, e2, e3⟩ := head_leaf hn h1 hl h2
    obtain ⟨e4, e5, e6⟩ := hq e3 q pad h1 hl e1.symm e2
    refine ⟨by rw [e6]; rfl, ?_⟩
    rw [e4, e5]
    have e7 := (leaf_vals h1 hl).2
    cases q
    simp only at hl e7
    rw [hl, e7]
theorem pageQ_inner {T R1 : List Nat} {m : Nat} {b1 b2 : Bool} {keys : List (List Nat)} {kids : List Int} (hn : numS (T.drop 1) false m R1 b1) (h0 : 2 = T.getD 0 0) (hq : b1 = false → ∀ q pad, checkE q = 0 → q.leaf = false → q.keys.length = m → R1 = num (q.kids.getD 0 0).toNat ++ (restI q 0 ++ pad) → keys = q.keys ∧ kids = q.kids ∧ b2 = false) : ∀ q pad, checkE q = 0 → T = textP q ++ pad → (!b2) = true ∧ (⟨false, keys, [], kids⟩ : Pg) = q := fun q pad h1 h2 => by
  cases hl : q.leaf with
  | true =>
    have := (head_leaf hn h1 hl h2).1
    rw [← h0] at this
    cases this
  | false =>
    obtain ⟨_, e1, e2, e3⟩ := head_inner hn h1 hl h2
    obtain ⟨e4, e5, e6⟩ := hq e3 q pad h1 hl e1.symm e2
    refine ⟨by rw [e6]; rfl, ?_⟩
    rw [e4, e5]
    have e7 := List.length_eq_zero_iff.1 (inner_lens h1 hl).2.2.1
    cases q
    simp only at hl e7
    rw [hl, e7]
theorem pageQ_none {T R1 : List Nat} {m : Nat} {b1 : Bool} {F : Pg → Prop} (hn : numS (T.drop 1) false m R1 b1) (h1' : ¬ T.getD 0 0 = 1) (h2' : ¬ T.getD 0 0 = 2) : ∀ q pad, checkE q = 0 → T = textP q ++ pad → F q := fun q pad h1 h2 => by
  exfalso
  cases hl : q.leaf with
  | false => exact h2' (head_inner hn h1 hl h2).1
  | true => exact h1' (head_leaf hn h1 hl h2).1
theorem below_gr {B r : Nat} {w W W' : World} (h : Below B w W) (hg : W.grownBy W' (some r)) (hr : B ≤ r) (hB : B ≤ W.heap.size) : Below B w W' := ⟨hg.os.trans h.os, hg.tape.trans h.tape, hg.output.trans h.output, Nat.le_trans h.size hg.size, fun k hk => (hg.block k (by omega) (by simp; omega)).trans (h.block k hk)⟩
set_option maxHeartbeats 4000000 in
/-- node.readPage -/
theorem readPage38 (b off c n : Nat) (T : List Nat) (w : World) (h : IsB w (some ⟨b, off, none⟩) n c T) (h1 : 1 < n) (h2 : n ≤ 4097) :
    Calls Try.prog 38 #[.slice (some ⟨b, off, none⟩) n c] w fun e w' => Page38 T w e w' := by
  have HTB := hide h
  have hc1 : n ≤ c := h.2.1
  have hc2 : c ≤ 9223372036854775807 := h.2.2.1
  obtain ⟨Wz, hWz⟩ : ∃ W, W = w.alloc (.cells #[.bool false, .slice none 0 0, .slice none 0 0, .slice none 0 0] 25) := ⟨_, rfl⟩
  have HSZ : Hid (Wz.heap.size = w.heap.size + 1) := hide (by rw [hWz]; simp)
  have HB : Hid (Wz.heap[w.heap.size]? = some (.cells #[.bool false, .slice none 0 0, .slice none 0 0, .slice none 0 0] 25 (0, 0))) := hide (by rw [hWz, heap_alloc_new])
  have HBz : Hid (Below w.heap.size w Wz) := hide (by rw [hWz]; exact belowN _ _)
  obtain ⟨Wr, hWr⟩ : ∃ W, W = Wz.alloc (.cells #[.slice (some ⟨b, off + 1, none⟩) (n - 1) (c - 1), .bool false] 80) := ⟨_, rfl⟩
  have hb1 : Below Wz.heap.size Wz Wr := by rw [hWr]; exact belowN _ _
  have HW : Hid (RdW Wr (w.heap.size + 1) (some ⟨b, off + 1, none⟩) (n - 1) (c - 1) (T.drop 1) false) := hide ⟨by rw [hWr, ← HSZ.out, heap_alloc_new], IsB.back ((h.below HBz.out).below hb1) 1 (by omega), by rw [List.length_drop, h.1]; omega⟩
  have HN := hide (num69 (w.heap.size + 1) _ _ _ _ _ Wr HW.out)
  have HBr : Hid (Below w.heap.size w Wr) := hide (HBz.out.trans (hb1.mono HBz.out.size))
  have HB1 : Hid (Wr.heap[w.heap.size]? = some (.cells #[.bool false, .slice none 0 0, .slice none 0 0, .slice none 0 0] 25 (0, 0))) := hide ((hb1.block _ (heap_ltN HB.out)).trans HB.out)
  have HSR : Hid (Wr.heap.size = w.heap.size + 2) := hide (by rw [hWr]; simp [HSZ.out])
  have hi1 : (1 : Int) ≤ (n : Int) := by omega
  have hi2 : (n : Int) ≤ (c : Int) := by omega
  clear h hb1
  go_enter Try.func38, Try.ntmps38
  go_wp2_with fail
  try rw [← hWz]
  try rw [← hWr]
  clear hWz hWr
  refine HN.out.mono ?_
  rintro e w1 ⟨m, R1, b1, rfl, hm, hns, hr1, hg1⟩
  have HNS := hide hns
  have HMM := hide hm
  obtain ⟨P, hP⟩ : ∃ P, P = w1.heap.size := ⟨_, rfl⟩
  obtain ⟨Wp, hWp⟩ : ∃ W, W = w1.alloc (.cells #[.bool false, .slice none 0 0, .slice none 0 0, .slice none 0 0] 25) := ⟨_, rfl⟩
  have hbp : Below w1.heap.size w1 Wp := by rw [hWp]; exact belowN _ _
  have hbw : Below w.heap.size w w1 := below_gr HBr.out hg1 (by omega) HBr.out.size
  have HBP : Hid (Below w.heap.size w Wp) := hide (hbw.trans (hbp.mono hbw.size))
  have HRD := hide (hr1.below hbp)
  have HXB : Hid (Wp.heap[w.heap.size]? = some (.cells #[.bool false, .slice none 0 0, .slice none 0 0, .slice none 0 0] 25 (0, 0))) := hide ((hbp.block _ (by have := hg1.size; have := HSR.out; omega)).trans ((hg1.block _ (by have := HSR.out; omega) (by simp)).trans HB1.out))
  have HXP : Hid (Wp.heap[P]? = some (.cells #[.bool false, .slice none 0 0, .slice none 0 0, .slice none 0 0] 25 (0, 0))) := hide (by rw [hWp, hP, heap_alloc_new])
  have HPG : Hid (w.heap.size + 2 ≤ P) := hide (by rw [hP]; have := hg1.size; have := HSR.out; omega)
  have z0 : Wp.cell? ⟨b, off, none⟩ = some (.int .u8 (T.getD 0 0 : Nat)) := by
    rcases (HTB.out.below HBP.out).2.2.2.2 with ⟨h0, _⟩ | ⟨b', off', e, _, hc⟩
    · omega
    · cases e
      exact hc 0 (by omega)
  have hi0 : (0 : Int) < (n : Int) := by omega
  have HLF := hide (leaf70 (w.heap.size + 1) R1 b1 m Wp HRD.out hm)
  have HIN := hide (inner71 (w.heap.size + 1) R1 b1 m Wp HRD.out hm)
  obtain ⟨x0, hx0⟩ : ∃ x, x = T.getD 0 0 := ⟨_, rfl⟩
  rw [← hx0, hWp] at z0
  have HX0 := hide hx0
  clear hns hr1 hg1 HN hbp hbw hm hx0
  subst hP
  by_cases hx1 : x0 = 1
  · subst hx1
    go_wp2_with fail
    try rw [← hWp]
    refine HLF.out.mono ?_
    rintro e w2 ⟨v, keys, vals, R2, b2, rfl, hG, hk1, hk2, hsh, hrd, hq, hg2⟩
    have HQ := hide hq
    have HFW : Hid (FewP v) := hide (by
      have e1 := hG.is.keys.1
      have e2 := hG.is.vals.1
      have e3 := hG.is.kids.1
      dsimp only at e1 e2 e3
      unfold FewP
      have e4 : v.inn = 0 := e3.symm
      omega)
    have HSH := hide (hsh)
    have HP2 : Hid (w2.heap[w1.heap.size]? = some (.cells #[.bool false, .slice none 0 0, .slice none 0 0, .slice none 0 0] 25 (0, 0))) := hide ((hg2.block _ (heap_ltN HXP.out) (by have := HPG.out; simp; omega)).trans HXP.out)
    have HB2 : Hid (w2.heap[w.heap.size]? = some (.cells #[.bool false, .slice none 0 0, .slice none 0 0, .slice none 0 0] 25 (0, 0))) := hide ((hg2.block _ (heap_ltN HXB.out) (by simp)).trans HXB.out)
    have HBW2 : Hid (Below w.heap.size w w2) := hide (below_gr HBP.out hg2 (by omega) HBP.out.size)
    have HN2 : Hid (NwG w2 w1.heap.size v ⟨true, keys, vals, []⟩) := hide (hG.mono (by have := heap_ltN HXP.out; omega))
    have HR2 := hide hrd
    clear hG hk1 hk2 hsh hrd hq hg2 HLF z0
    have y0 : w2.cell? ⟨w1.heap.size, 0, none⟩ = some (.bool false) := cell_blkN HP2.out rfl
    have y1 : w2.cell? ⟨w1.heap.size, 1, none⟩ = some (.slice none 0 0) := cell_blkN HP2.out rfl
    have y2 : w2.cell? ⟨w1.heap.size, 2, none⟩ = some (.slice none 0 0) := cell_blkN HP2.out rfl
    have y3 : w2.cell? ⟨w1.heap.size, 3, none⟩ = some (.slice none 0 0) := cell_blkN HP2.out rfl
    have f0 := frzN HP2.out 0
    have f1 := frzN HP2.out 1
    have f2 := frzN HP2.out 2
    have f3 := frzN HP2.out 3
    go_wp2_with fail
    obtain ⟨V4, hV5⟩ : ∃ V, V = (((w2.setCell ⟨w1.heap.size, 0, none⟩ (.bool true)).setCell ⟨w1.heap.size, 1, none⟩ (.slice v.ka v.kn v.kc)).setCell ⟨w1.heap.size, 2, none⟩ (.slice v.va v.vn v.vc)).setCell ⟨w1.heap.size, 3, none⟩ (.slice v.ia v.inn v.ic) := ⟨_, rfl⟩
    have hV4 : V4 = set4 w2 w1.heap.size (.bool true) (.slice v.ka v.kn v.kc) (.slice v.va v.vn v.vc) (.slice v.ia v.inn v.ic) := hV5
    have HP4 : Hid (BlkG V4 w1.heap.size true v) := hide (by rw [BlkG, hV4, blk4 HP2.out])
    have HB4 : Hid (V4.heap[w.heap.size]? = some (.cells #[.bool false, .slice none 0 0, .slice none 0 0, .slice none 0 0] 25 (0, 0))) := hide (by rw [hV4, out4 (by have := HPG.out; omega)]; exact HB2.out)
    have HR4 : Hid (RdI V4 (w.heap.size + 1) R2 b2) := hide (by
      rw [hV4]
      exact HR2.out.kept (by rw [size4]; exact Nat.le_refl _) (fun b' cs' t f' ht hb => out4 (fun e => by
        rw [e, HP2.out] at hb
        cases hb
        rcases ht with ht | ht <;> cases ht) _ _ _ _))
    have HN4 : Hid (NwG V4 w1.heap.size v ⟨true, keys, vals, []⟩) := hide (by rw [hV4]; exact HN2.out.set4 (Nat.le_refl _) _ _ _ _)
    have HBW4 : Hid (Below w.heap.size w V4) := hide (by rw [hV4]; exact below4 HBW2.out (by have := HPG.out; omega) _ _ _ _)
    rw [← hV5]
    clear hV4 hV5 y0 y1 y2 y3 f0 f1 f2 f3
    obtain ⟨p0, p1, p2, p3⟩ := BlkG.cells HP4.out
    have HSl : Hid (∀ W : World, W.heap[w1.heap.size]? = V4.heap[w1.heap.size]? → W.heap[w.heap.size + 1]? = V4.heap[w.heap.size + 1]? → W.cell? ⟨w1.heap.size, 0, none⟩ = some (.bool true) ∧ W.cell? ⟨w1.heap.size, 1, none⟩ = some (.slice v.ka v.kn v.kc) ∧ W.cell? ⟨w1.heap.size, 2, none⟩ = some (.slice v.va v.vn v.vc) ∧ W.cell? ⟨w1.heap.size, 3, none⟩ = some (.slice v.ia v.inn v.ic) ∧ W.cell? ⟨w.heap.size + 1, 1, none⟩ = some (.bool b2)) := hide (fun W e1 e2 => by
      obtain ⟨ra, rn, rc, h1, _⟩ := HR4.out.is
      obtain ⟨p0, p1, p2, p3⟩ := BlkG.cells (e1.trans HP4.out)
      exact ⟨p0, p1, p2, p3, cell_blkN (e2.trans h1) rfl⟩)
    clear p0 p1 p2 p3
    refine wp_region_held_drew (S := fun W : World => W.cell? ⟨w1.heap.size, 0, none⟩ = some (.bool true) ∧ W.cell? ⟨w1.heap.size, 1, none⟩ = some (.slice v.ka v.kn v.kc) ∧ W.cell? ⟨w1.heap.size, 2, none⟩ = some (.slice v.va v.vn v.vc) ∧ W.cell? ⟨w1.heap.size, 3, none⟩ = some (.slice v.ia v.inn v.ic) ∧ W.cell? ⟨w.heap.size + 1, 1, none⟩ = some (.bool b2)) (by kernel_rfl) (HSl.out _ rfl rfl) (fun hHeld => ?_)
    refine hTake (i := 0) (v := ?v0l) (some 23) rfl rfl (by kernel_rfl) (by kernel_rfl) (by kernel_rfl) (fun _ _ _ h => h) (by rfl) (by assumption) ?hy0l ?hn0l
    case hy0l => (intro w hSw; (try dsimp only at hSw); skip; go_simp; try with_reducible rfl)
    try simp only [Act.put, List.setIfInBounds_toArray, List.set_cons_zero, List.set_cons_succ]
    refine hTake (i := 1) (v := ?v1l) (some 24) rfl rfl (by kernel_rfl) (by kernel_rfl) (by kernel_rfl) (fun _ _ _ h => h) (by rfl) (by assumption) ?hy1l ?hn1l
    case hy1l => (intro w hSw; (try dsimp only at hSw); skip; go_simp; try with_reducible rfl)
    try simp only [Act.put, List.setIfInBounds_toArray, List.set_cons_zero, List.set_cons_succ]
    refine hTake (i := 2) (v := ?v2l) (some 25) rfl rfl (by kernel_rfl) (by kernel_rfl) (by kernel_rfl) (fun _ _ _ h => h) (by rfl) (by assumption) ?hy2l ?hn2l
    case hy2l => (intro w hSw; (try dsimp only at hSw); skip; go_simp; try with_reducible rfl)
    try simp only [Act.put, List.setIfInBounds_toArray, List.set_cons_zero, List.set_cons_succ]
    refine hTake (i := 3) (v := ?v3l) (some 26) rfl rfl (by kernel_rfl) (by kernel_rfl) (by kernel_rfl) (fun _ _ _ h => h) (by rfl) (by assumption) ?hy3l ?hn3l
    case hy3l => (intro w hSw; (try dsimp only at hSw); skip; go_simp; try with_reducible rfl)
    try simp only [Act.put, List.setIfInBounds_toArray, List.set_cons_zero, List.set_cons_succ]
    have HDl : Hid (V4.drew.heap[w.heap.size]? = some (.cells #[.bool false, .slice none 0 0, .slice none 0 0, .slice none 0 0] 25 (0, 0)) ∧ V4.drew.heap[w1.heap.size]? = V4.heap[w1.heap.size]? ∧ V4.drew.heap[w.heap.size + 1]? = V4.heap[w.heap.size + 1]? ∧ NwG V4.drew w1.heap.size (v) ⟨true, keys, vals, []⟩ ∧ Below w.heap.size w V4.drew) := hide ⟨HB4.out, rfl, rfl, HN4.out.below (Below.refl _ _).drew, HBW4.out.drew⟩
    obtain ⟨Wd, hWd⟩ : ∃ W, W = V4.drew := ⟨_, rfl⟩
    rw [← hWd] at HDl ⊢
    clear hWd
    have y0 : Wd.cell? ⟨w.heap.size, 0, none⟩ = some (.bool false) := cell_blkN HDl.out.1 rfl
    have y1 : Wd.cell? ⟨w.heap.size, 1, none⟩ = some (.slice none 0 0) := cell_blkN HDl.out.1 rfl
    have y2 : Wd.cell? ⟨w.heap.size, 2, none⟩ = some (.slice none 0 0) := cell_blkN HDl.out.1 rfl
    have y3 : Wd.cell? ⟨w.heap.size, 3, none⟩ = some (.slice none 0 0) := cell_blkN HDl.out.1 rfl
    have f0 := frzN HDl.out.1 0
    have f1 := frzN HDl.out.1 1
    have f2 := frzN HDl.out.1 2
    have f3 := frzN HDl.out.1 3
    refine hOne (i := 4) rfl (by kernel_rfl) (fun K hK => ?_)
    go_simp
    have HS4l := hide (HSl.out (set4 Wd w.heap.size (.bool true) (.slice v.ka v.kn v.kc) (.slice v.va v.vn v.vc) (.slice v.ia v.inn v.ic)) ((out4 (by have := HPG.out; omega) _ _ _ _).trans HDl.out.2.1) ((out4 (by omega) _ _ _ _).trans HDl.out.2.2.1))
    refine hK.out _ _ HS4l.out (fun hHeld => ?_)
    clear hK K
    try simp only [Act.put, List.setIfInBounds_toArray, List.set_cons_zero, List.set_cons_succ]
    refine hOne (i := 5) rfl (by kernel_rfl) (fun K hK => ?_)
    go_simp
    refine hK.out _ _ HS4l.out (fun hHeld => ?_)
    clear hK K
    try simp only [Act.put, List.setIfInBounds_toArray, List.set_cons_zero, List.set_cons_succ]
    refine wpAnyH_done (by kernel_rfl) ?_ _
    go_wp2
    (try simp only [Exit.inBlock, Exit.then])
    refine bodyPost_ret (resP2 rfl _ _ w.heap.size #[.bool true, .slice v.ka v.kn v.kc, .slice v.va v.vn v.vc, .slice v.ia v.inn v.ic] (blk4 HDl.out.1 _ _ _ _) rfl rfl) rfl ?_
    exact ⟨v, ⟨true, keys, vals, []⟩, !b2, rfl, (HDl.out.2.2.2.1.set4 (by have := HPG.out; omega) _ _ _ _).mono (by have := HPG.out; omega), HFW.out, HSH.out, pageQ_leaf HNS.out HX0.out HQ.out, below4 HDl.out.2.2.2.2 (Nat.le_refl _) _ _ _ _⟩
  · by_cases hx2 : x0 = 2
    · subst hx2
      go_wp2_with fail
      try rw [← hWp]
      refine HIN.out.mono ?_
      rintro e w2 ⟨v, keys, kids, R2, b2, rfl, hG, hk1, hk2, hsh, hrd, hq, hg2⟩
      have HQ := hide hq
      have HFW : Hid (FewP v) := hide (by
        have e1 := hG.is.keys.1
        have e2 := hG.is.vals.1
        have e3 := hG.is.kids.1
        dsimp only at e1 e2 e3
        unfold FewP
        have e4 : v.vn = 0 := e2.symm
        omega)
      have HSH := hide ((⟨hsh, nofun⟩ : (∀ b ∈ keys, b.length ≤ 1024) ∧ ∀ b ∈ ([] : List (List Nat)), b.length ≤ 1024))
      have HP2 : Hid (w2.heap[w1.heap.size]? = some (.cells #[.bool false, .slice none 0 0, .slice none 0 0, .slice none 0 0] 25 (0, 0))) := hide ((hg2.block _ (heap_ltN HXP.out) (by have := HPG.out; simp; omega)).trans HXP.out)
      have HB2 : Hid (w2.heap[w.heap.size]? = some (.cells #[.bool false, .slice none 0 0, .slice none 0 0, .slice none 0 0] 25 (0, 0))) := hide ((hg2.block _ (heap_ltN HXB.out) (by simp)).trans HXB.out)
      have HBW2 : Hid (Below w.heap.size w w2) := hide (below_gr HBP.out hg2 (by omega) HBP.out.size)
      have HN2 : Hid (NwG w2 w1.heap.size v ⟨false, keys, [], kids⟩) := hide (hG.mono (by have := heap_ltN HXP.out; omega))
      have HR2 := hide hrd
      clear hG hk1 hk2 hsh hrd hq hg2 HIN z0
      have y0 : w2.cell? ⟨w1.heap.size, 0, none⟩ = some (.bool false) := cell_blkN HP2.out rfl
      have y1 : w2.cell? ⟨w1.heap.size, 1, none⟩ = some (.slice none 0 0) := cell_blkN HP2.out rfl
      have y2 : w2.cell? ⟨w1.heap.size, 2, none⟩ = some (.slice none 0 0) := cell_blkN HP2.out rfl
      have y3 : w2.cell? ⟨w1.heap.size, 3, none⟩ = some (.slice none 0 0) := cell_blkN HP2.out rfl
      have f0 := frzN HP2.out 0
      have f1 := frzN HP2.out 1
      have f2 := frzN HP2.out 2
      have f3 := frzN HP2.out 3
      go_wp2_with fail
      obtain ⟨V4, hV5⟩ : ∃ V, V = (((w2.setCell ⟨w1.heap.size, 0, none⟩ (.bool false)).setCell ⟨w1.heap.size, 1, none⟩ (.slice v.ka v.kn v.kc)).setCell ⟨w1.heap.size, 2, none⟩ (.slice v.va v.vn v.vc)).setCell ⟨w1.heap.size, 3, none⟩ (.slice v.ia v.inn v.ic) := ⟨_, rfl⟩
      have hV4 : V4 = set4 w2 w1.heap.size (.bool false) (.slice v.ka v.kn v.kc) (.slice v.va v.vn v.vc) (.slice v.ia v.inn v.ic) := hV5
      have HP4 : Hid (BlkG V4 w1.heap.size false v) := hide (by rw [BlkG, hV4, blk4 HP2.out])
      have HB4 : Hid (V4.heap[w.heap.size]? = some (.cells #[.bool false, .slice none 0 0, .slice none 0 0, .slice none 0 0] 25 (0, 0))) := hide (by rw [hV4, out4 (by have := HPG.out; omega)]; exact HB2.out)
      have HR4 : Hid (RdI V4 (w.heap.size + 1) R2 b2) := hide (by
        rw [hV4]
        exact HR2.out.kept (by rw [size4]; exact Nat.le_refl _) (fun b' cs' t f' ht hb => out4 (fun e => by
          rw [e, HP2.out] at hb
          cases hb
          rcases ht with ht | ht <;> cases ht) _ _ _ _))
      have HN4 : Hid (NwG V4 w1.heap.size v ⟨false, keys, [], kids⟩) := hide (by rw [hV4]; exact HN2.out.set4 (Nat.le_refl _) _ _ _ _)
      have HBW4 : Hid (Below w.heap.size w V4) := hide (by rw [hV4]; exact below4 HBW2.out (by have := HPG.out; omega) _ _ _ _)
      rw [← hV5]
      clear hV4 hV5 y0 y1 y2 y3 f0 f1 f2 f3
      obtain ⟨p0, p1, p2, p3⟩ := BlkG.cells HP4.out
      have HSi : Hid (∀ W : World, W.heap[w1.heap.size]? = V4.heap[w1.heap.size]? → W.heap[w.heap.size + 1]? = V4.heap[w.heap.size + 1]? → W.cell? ⟨w1.heap.size, 0, none⟩ = some (.bool false) ∧ W.cell? ⟨w1.heap.size, 1, none⟩ = some (.slice v.ka v.kn v.kc) ∧ W.cell? ⟨w1.heap.size, 2, none⟩ = some (.slice v.va v.vn v.vc) ∧ W.cell? ⟨w1.heap.size, 3, none⟩ = some (.slice v.ia v.inn v.ic) ∧ W.cell? ⟨w.heap.size + 1, 1, none⟩ = some (.bool b2)) := hide (fun W e1 e2 => by
        obtain ⟨ra, rn, rc, h1, _⟩ := HR4.out.is
        obtain ⟨p0, p1, p2, p3⟩ := BlkG.cells (e1.trans HP4.out)
        exact ⟨p0, p1, p2, p3, cell_blkN (e2.trans h1) rfl⟩)
      clear p0 p1 p2 p3
      refine wp_region_held_drew (S := fun W : World => W.cell? ⟨w1.heap.size, 0, none⟩ = some (.bool false) ∧ W.cell? ⟨w1.heap.size, 1, none⟩ = some (.slice v.ka v.kn v.kc) ∧ W.cell? ⟨w1.heap.size, 2, none⟩ = some (.slice v.va v.vn v.vc) ∧ W.cell? ⟨w1.heap.size, 3, none⟩ = some (.slice v.ia v.inn v.ic) ∧ W.cell? ⟨w.heap.size + 1, 1, none⟩ = some (.bool b2)) (by kernel_rfl) (HSi.out _ rfl rfl) (fun hHeld => ?_)
      refine hTake (i := 0) (v := ?v0i) (some 23) rfl rfl (by kernel_rfl) (by kernel_rfl) (by kernel_rfl) (fun _ _ _ h => h) (by rfl) (by assumption) ?hy0i ?hn0i
      case hy0i => (intro w hSw; (try dsimp only at hSw); skip; go_simp; try with_reducible rfl)
      try simp only [Act.put, List.setIfInBounds_toArray, List.set_cons_zero, List.set_cons_succ]
      refine hTake (i := 1) (v := ?v1i) (some 24) rfl rfl (by kernel_rfl) (by kernel_rfl) (by kernel_rfl) (fun _ _ _ h => h) (by rfl) (by assumption) ?hy1i ?hn1i
      case hy1i => (intro w hSw; (try dsimp only at hSw); skip; go_simp; try with_reducible rfl)
      try simp only [Act.put, List.setIfInBounds_toArray, List.set_cons_zero, List.set_cons_succ]
      refine hTake (i := 2) (v := ?v2i) (some 25) rfl rfl (by kernel_rfl) (by kernel_rfl) (by kernel_rfl) (fun _ _ _ h => h) (by rfl) (by assumption) ?hy2i ?hn2i
      case hy2i => (intro w hSw; (try dsimp only at hSw); skip; go_simp; try with_reducible rfl)
      try simp only [Act.put, List.setIfInBounds_toArray, List.set_cons_zero, List.set_cons_succ]
      refine hTake (i := 3) (v := ?v3i) (some 26) rfl rfl (by kernel_rfl) (by kernel_rfl) (by kernel_rfl) (fun _ _ _ h => h) (by rfl) (by assumption) ?hy3i ?hn3i
      case hy3i => (intro w hSw; (try dsimp only at hSw); skip; go_simp; try with_reducible rfl)
      try simp only [Act.put, List.setIfInBounds_toArray, List.set_cons_zero, List.set_cons_succ]
      have HDi : Hid (V4.drew.heap[w.heap.size]? = some (.cells #[.bool false, .slice none 0 0, .slice none 0 0, .slice none 0 0] 25 (0, 0)) ∧ V4.drew.heap[w1.heap.size]? = V4.heap[w1.heap.size]? ∧ V4.drew.heap[w.heap.size + 1]? = V4.heap[w.heap.size + 1]? ∧ NwG V4.drew w1.heap.size (v) ⟨false, keys, [], kids⟩ ∧ Below w.heap.size w V4.drew) := hide ⟨HB4.out, rfl, rfl, HN4.out.below (Below.refl _ _).drew, HBW4.out.drew⟩
      obtain ⟨Wd, hWd⟩ : ∃ W, W = V4.drew := ⟨_, rfl⟩
      rw [← hWd] at HDi ⊢
      clear hWd
      have y0 : Wd.cell? ⟨w.heap.size, 0, none⟩ = some (.bool false) := cell_blkN HDi.out.1 rfl
      have y1 : Wd.cell? ⟨w.heap.size, 1, none⟩ = some (.slice none 0 0) := cell_blkN HDi.out.1 rfl
      have y2 : Wd.cell? ⟨w.heap.size, 2, none⟩ = some (.slice none 0 0) := cell_blkN HDi.out.1 rfl
      have y3 : Wd.cell? ⟨w.heap.size, 3, none⟩ = some (.slice none 0 0) := cell_blkN HDi.out.1 rfl
      have f0 := frzN HDi.out.1 0
      have f1 := frzN HDi.out.1 1
      have f2 := frzN HDi.out.1 2
      have f3 := frzN HDi.out.1 3
      refine hOne (i := 4) rfl (by kernel_rfl) (fun K hK => ?_)
      go_simp
      have HS4i := hide (HSi.out (set4 Wd w.heap.size (.bool false) (.slice v.ka v.kn v.kc) (.slice v.va v.vn v.vc) (.slice v.ia v.inn v.ic)) ((out4 (by have := HPG.out; omega) _ _ _ _).trans HDi.out.2.1) ((out4 (by omega) _ _ _ _).trans HDi.out.2.2.1))
      refine hK.out _ _ HS4i.out (fun hHeld => ?_)
      clear hK K
      try simp only [Act.put, List.setIfInBounds_toArray, List.set_cons_zero, List.set_cons_succ]
      refine hOne (i := 5) rfl (by kernel_rfl) (fun K hK => ?_)
      go_simp
      refine hK.out _ _ HS4i.out (fun hHeld => ?_)
      clear hK K
      try simp only [Act.put, List.setIfInBounds_toArray, List.set_cons_zero, List.set_cons_succ]
      refine wpAnyH_done (by kernel_rfl) ?_ _
      go_wp2
      (try simp only [Exit.inBlock, Exit.then])
      refine bodyPost_ret (resP2 rfl _ _ w.heap.size #[.bool false, .slice v.ka v.kn v.kc, .slice v.va v.vn v.vc, .slice v.ia v.inn v.ic] (blk4 HDi.out.1 _ _ _ _) rfl rfl) rfl ?_
      exact ⟨v, ⟨false, keys, [], kids⟩, !b2, rfl, (HDi.out.2.2.2.1.set4 (by have := HPG.out; omega) _ _ _ _).mono (by have := HPG.out; omega), HFW.out, HSH.out, pageQ_inner HNS.out HX0.out HQ.out, below4 HDi.out.2.2.2.2 (Nat.le_refl _) _ _ _ _⟩
    · have hx1' : ((x0 : Int) == 1) = false := by simpa using (show ¬ (x0 : Int) = 1 by omega)
      have hx2' : ((x0 : Int) == 2) = false := by simpa using (show ¬ (x0 : Int) = 2 by omega)
      obtain ⟨ra0, rn0, rc0, hrb, hri, hrt⟩ := HRD.out.is
      have HRB := hide hrb
      have r1 : Wp.cell? ⟨w.heap.size + 1, 1, none⟩ = some (.bool b1) := cell_blkN hrb rfl
      have g1 : Wp.frozen? ⟨w.heap.size + 1, 1, none⟩ = false := by simp [World.frozen?, hrb]
      rw [hWp] at r1 g1
      clear hrb hri hrt
      go_wp2_with fail
      try rw [← hWp]
      obtain ⟨V4, hV4⟩ : ∃ V, V = Wp.setCell ⟨w.heap.size + 1, 1, none⟩ (.bool true) := ⟨_, rfl⟩
      have HFW : Hid (FewP Pv0) := hide (by unfold FewP Pv0; decide)
      have HSH : Hid ((∀ b ∈ Pg0.keys, b.length ≤ 1024) ∧ ∀ b ∈ Pg0.vals, b.length ≤ 1024) := hide ⟨nofun, nofun⟩
      have HP4 : Hid (BlkG V4 w1.heap.size false Pv0) := hide (by rw [BlkG, hV4, Below.heap_setCell _ _ _ _ (show w1.heap.size ≠ w.heap.size + 1 by have := HPG.out; omega)]; exact HXP.out)
      have HB4 : Hid (V4.heap[w.heap.size]? = some (.cells #[.bool false, .slice none 0 0, .slice none 0 0, .slice none 0 0] 25 (0, 0))) := hide (by rw [hV4, Below.heap_setCell _ _ _ _ (show w.heap.size ≠ w.heap.size + 1 by omega)]; exact HXB.out)
      have HR4 : Hid (∃ a n c, V4.heap[w.heap.size + 1]? = some (.cells #[.slice a n c, .bool true] 80 (0, 0))) := hide ⟨ra0, rn0, rc0, by rw [hV4, blk_setN (j := 1) HRB.out]; rfl⟩
      have HN4 : Hid (NwG V4 w1.heap.size Pv0 Pg0) := hide (nwG_0 _ _)
      have HBW4 : Hid (Below w.heap.size w V4) := hide (by rw [hV4]; exact HBP.out.setCell (show w.heap.size ≤ w.heap.size + 1 from Nat.le_succ _) _)
      rw [← hV4]
      clear hV4 r1 g1 z0 HLF HIN
      obtain ⟨p0, p1, p2, p3⟩ := BlkG.cells HP4.out
      have HSe : Hid (∀ W : World, W.heap[w1.heap.size]? = V4.heap[w1.heap.size]? → W.heap[w.heap.size + 1]? = V4.heap[w.heap.size + 1]? → W.cell? ⟨w1.heap.size, 0, none⟩ = some (.bool false) ∧ W.cell? ⟨w1.heap.size, 1, none⟩ = some (.slice none 0 0) ∧ W.cell? ⟨w1.heap.size, 2, none⟩ = some (.slice none 0 0) ∧ W.cell? ⟨w1.heap.size, 3, none⟩ = some (.slice none 0 0) ∧ W.cell? ⟨w.heap.size + 1, 1, none⟩ = some (.bool true)) := hide (fun W e1 e2 => by
        obtain ⟨ra, rn, rc, h1⟩ := HR4.out
        obtain ⟨p0, p1, p2, p3⟩ := BlkG.cells (e1.trans HP4.out)
        exact ⟨p0, p1, p2, p3, cell_blkN (e2.trans h1) rfl⟩)
      clear p0 p1 p2 p3
      refine wp_region_held_drew (S := fun W : World => W.cell? ⟨w1.heap.size, 0, none⟩ = some (.bool false) ∧ W.cell? ⟨w1.heap.size, 1, none⟩ = some (.slice none 0 0) ∧ W.cell? ⟨w1.heap.size, 2, none⟩ = some (.slice none 0 0) ∧ W.cell? ⟨w1.heap.size, 3, none⟩ = some (.slice none 0 0) ∧ W.cell? ⟨w.heap.size + 1, 1, none⟩ = some (.bool true)) (by kernel_rfl) (HSe.out _ rfl rfl) (fun hHeld => ?_)
      refine hTake (i := 0) (v := ?v0e) (some 23) rfl rfl (by kernel_rfl) (by kernel_rfl) (by kernel_rfl) (fun _ _ _ h => h) (by rfl) (by assumption) ?hy0e ?hn0e
      case hy0e => (intro w hSw; (try dsimp only at hSw); skip; go_simp; try with_reducible rfl)
      try simp only [Act.put, List.setIfInBounds_toArray, List.set_cons_zero, List.set_cons_succ]
      refine hTake (i := 1) (v := ?v1e) (some 24) rfl rfl (by kernel_rfl) (by kernel_rfl) (by kernel_rfl) (fun _ _ _ h => h) (by rfl) (by assumption) ?hy1e ?hn1e
      case hy1e => (intro w hSw; (try dsimp only at hSw); skip; go_simp; try with_reducible rfl)
      try simp only [Act.put, List.setIfInBounds_toArray, List.set_cons_zero, List.set_cons_succ]
      refine hTake (i := 2) (v := ?v2e) (some 25) rfl rfl (by kernel_rfl) (by kernel_rfl) (by kernel_rfl) (fun _ _ _ h => h) (by rfl) (by assumption) ?hy2e ?hn2e
      case hy2e => (intro w hSw; (try dsimp only at hSw); skip; go_simp; try with_reducible rfl)
      try simp only [Act.put, List.setIfInBounds_toArray, List.set_cons_zero, List.set_cons_succ]
      refine hTake (i := 3) (v := ?v3e) (some 26) rfl rfl (by kernel_rfl) (by kernel_rfl) (by kernel_rfl) (fun _ _ _ h => h) (by rfl) (by assumption) ?hy3e ?hn3e
      case hy3e => (intro w hSw; (try dsimp only at hSw); skip; go_simp; try with_reducible rfl)
      try simp only [Act.put, List.setIfInBounds_toArray, List.set_cons_zero, List.set_cons_succ]
      have HDe : Hid (V4.drew.heap[w.heap.size]? = some (.cells #[.bool false, .slice none 0 0, .slice none 0 0, .slice none 0 0] 25 (0, 0)) ∧ V4.drew.heap[w1.heap.size]? = V4.heap[w1.heap.size]? ∧ V4.drew.heap[w.heap.size + 1]? = V4.heap[w.heap.size + 1]? ∧ NwG V4.drew w1.heap.size (Pv0) Pg0 ∧ Below w.heap.size w V4.drew) := hide ⟨HB4.out, rfl, rfl, HN4.out.below (Below.refl _ _).drew, HBW4.out.drew⟩
      obtain ⟨Wd, hWd⟩ : ∃ W, W = V4.drew := ⟨_, rfl⟩
      rw [← hWd] at HDe ⊢
      clear hWd
      have y0 : Wd.cell? ⟨w.heap.size, 0, none⟩ = some (.bool false) := cell_blkN HDe.out.1 rfl
      have y1 : Wd.cell? ⟨w.heap.size, 1, none⟩ = some (.slice none 0 0) := cell_blkN HDe.out.1 rfl
      have y2 : Wd.cell? ⟨w.heap.size, 2, none⟩ = some (.slice none 0 0) := cell_blkN HDe.out.1 rfl
      have y3 : Wd.cell? ⟨w.heap.size, 3, none⟩ = some (.slice none 0 0) := cell_blkN HDe.out.1 rfl
      have f0 := frzN HDe.out.1 0
      have f1 := frzN HDe.out.1 1
      have f2 := frzN HDe.out.1 2
      have f3 := frzN HDe.out.1 3
      refine hOne (i := 4) rfl (by kernel_rfl) (fun K hK => ?_)
      go_simp
      have HS4e := hide (HSe.out (set4 Wd w.heap.size (.bool false) (.slice none 0 0) (.slice none 0 0) (.slice none 0 0)) ((out4 (by have := HPG.out; omega) _ _ _ _).trans HDe.out.2.1) ((out4 (by omega) _ _ _ _).trans HDe.out.2.2.1))
      refine hK.out _ _ HS4e.out (fun hHeld => ?_)
      clear hK K
      try simp only [Act.put, List.setIfInBounds_toArray, List.set_cons_zero, List.set_cons_succ]
      refine hOne (i := 5) rfl (by kernel_rfl) (fun K hK => ?_)
      go_simp
      refine hK.out _ _ HS4e.out (fun hHeld => ?_)
      clear hK K
      try simp only [Act.put, List.setIfInBounds_toArray, List.set_cons_zero, List.set_cons_succ]
      refine wpAnyH_done (by kernel_rfl) ?_ _
      go_wp2
      (try simp only [Exit.inBlock, Exit.then])
      refine bodyPost_ret (resP2 rfl _ _ w.heap.size #[.bool false, .slice none 0 0, .slice none 0 0, .slice none 0 0] (blk4 HDe.out.1 _ _ _ _) rfl rfl) rfl ?_
      exact ⟨Pv0, Pg0, false, rfl, (HDe.out.2.2.2.1.set4 (by have := HPG.out; omega) _ _ _ _).mono (by have := HPG.out; omega), HFW.out, HSH.out, pageQ_none HNS.out (fun e => hx1 (HX0.out.trans e)) (fun e => hx2 (HX0.out.trans e)), below4 HDe.out.2.2.2.2 (Nat.le_refl _) _ _ _ _⟩
end Go.Proofs.Ytebikoekpbnpbaa

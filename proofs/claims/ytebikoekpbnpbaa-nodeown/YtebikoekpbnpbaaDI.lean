/- the document's Copy -/
import Derived.Test.YtebikoekpbnpbaaDG
namespace Go.Proofs.Ytebikoekpbnpbaa
open Go.RowKit Cod
set_option maxRecDepth 100000
set_option linter.unusedVariables false
set_option linter.unusedSimpArgs false
/-- a row of slices of bytes, all in memory that is new -/
structure RowT (w : World) (base n : Nat) (v : Value) (xs : List Value) (L : List (List Nat)) : Prop where
  own : w.ownsRow base 26 1 v n xs
  els : ElT w base xs L
theorem RowT.below {w w' : World} {base n : Nat} {v : Value} {xs : List Value} {L : List (List Nat)} (h : RowT w base n v xs L) (hb : Below w.heap.size w w') : RowT w' base n v xs L := ⟨own_below h.own hb, h.els.below hb⟩
theorem RowT.mono {w : World} {base base' n : Nat} {v : Value} {xs : List Value} {L : List (List Nat)} (h : RowT w base n v xs L) (hb : base' ≤ base) : RowT w base' n v xs L := ⟨own_le h.own hb, h.els.1, fun i hi => by
  obtain ⟨a, n, c, e, hB, hf⟩ := h.els.2 i hi
  exact ⟨a, n, c, e, hB, fun b off e => ⟨Nat.le_trans hb (hf b off e).1, (hf b off e).2⟩⟩⟩
theorem RowT.kept {w w' : World} {base n : Nat} {v : Value} {xs : List Value} {L : List (List Nat)} (h : RowT w base n v xs L) (hs : w.heap.size ≤ w'.heap.size) (hk : ∀ (b : Nat) (cs : Array Value) (t : TypeId) (f : Nat × Nat), base ≤ b → (t = 5 ∨ t = 26) → w.heap[b]? = some (Obj.cells cs t f) → w'.heap[b]? = w.heap[b]?) : RowT w' base n v xs L := by
  refine ⟨⟨h.own.1, ?_⟩, h.els.1, fun i hi => ?_⟩
  · rcases h.own.2 with h1 | ⟨g, cap, cur, e, hb, hg, r⟩
    · exact .inl h1
    · exact .inr ⟨g, cap, cur, e, hb, (hk g cur 26 _ hb (.inr rfl) hg).trans hg, r⟩
  · obtain ⟨a, n, c, e, hB, hf⟩ := h.els.2 i hi
    refine ⟨a, n, c, e, hB.keptN hs (fun b off e2 => ?_), fun b off e2 => ?_⟩
    · obtain ⟨h1, cs, f, h2⟩ := hf b off e2
      exact hk b cs 5 f h1 (.inl rfl) h2
    · obtain ⟨h1, cs, f, h2⟩ := hf b off e2
      exact ⟨h1, cs, f, (hk b cs 5 f h1 (.inl rfl) h2).trans h2⟩
theorem RowT.grownK {w w' : World} {base base' n m : Nat} {v v0 : Value} {xs ys : List Value} {L : List (List Nat)} (h : RowT w base n v xs L) (hg : w.grownBy w' v0.ownBlock) (ho : w.ownsRow base' 3 1 v0 m ys) : RowT w' base n v xs L := h.kept hg.size (fun b cs t f _ ht hb => hg.block b (heap_ltN hb) (fun e => by
  rcases ho.2 with ⟨rfl, _⟩ | ⟨g, cap, cur, rfl, _, h2, _⟩
  · cases e
  · have e' : b = g := by simpa [Value.ownBlock] using e
    rw [e', h2] at hb
    cases hb
    rcases ht with ht | ht <;> cases ht))
theorem RowT.set4 {w : World} {base n B : Nat} {v : Value} {xs : List Value} {L : List (List Nat)} (h : RowT w base n v xs L) (hB : B < base) (a b c d : Value) : RowT (set4 w B a b c d) base n v xs L := h.kept (by rw [size4]; exact Nat.le_refl _) (fun k _ _ _ hk _ _ => out4 (by omega) _ _ _ _)
theorem RowT.isL {w : World} {base n : Nat} {v : Value} {xs : List Value} {L : List (List Nat)} (h : RowT w base n v xs L) (hl : L.length = n) : ∃ a c, v = .slice a n c ∧ IsL w a n c L ∧ (a = none ∨ ∃ b off, a = some ⟨b, off, none⟩) ∧ ∀ b off, a = some ⟨b, off, none⟩ → base ≤ b ∧ b < w.heap.size := by
  obtain ⟨a, c, e, hL⟩ := own_isL hl h.els.elB h.own
  refine ⟨a, c, e, hL, ?_, fun b off e2 => ?_⟩
  · rcases h.own.2 with ⟨e3, _⟩ | ⟨g, cap, cur, e3, _⟩
    · rw [e] at e3; cases e3; exact .inl rfl
    · rw [e] at e3; cases e3; exact .inr ⟨g, 0, rfl⟩
  · exact h.own.lt b (by rw [e, e2]; rfl)
theorem owns_emptyK (w : World) (base : Nat) (hb : base ≤ w.heap.size) : (w.alloc (.cells #[] 3)).ownsRow base 3 1 (.slice (some ⟨w.heap.size, 0, none⟩) 0 0) 0 [] := World.ownsRow_made w #[] 0 hb (Nat.zero_le _) rfl
/-- a copy of a page -/
structure Cpy (w : World) (G : Nat) (v : Pv) (p : Pg) (xs ys : List Value) (M : Nat) : Prop where
  rk : RowT w G v.kn (.slice v.ka v.kn v.kc) xs p.keys
  rv : RowT w G v.vn (.slice v.va v.vn v.vc) ys p.vals
  ki : IsK w v.ia v.inn v.ic p.kids
  kf : ∀ b off, v.ia = some ⟨b, off, none⟩ → G ≤ b ∧ ∃ cs f, w.heap[b]? = some (.cells cs 3 f)
  lk : p.keys.length = v.kn ∧ p.vals.length = v.vn
  am : ∀ b off, v.ka = some ⟨b, off, none⟩ → b < M
  bm : ∀ b off, v.va = some ⟨b, off, none⟩ → M ≤ b
theorem Cpy.is {w : World} {G : Nat} {v : Pv} {p : Pg} {xs ys : List Value} {M : Nat} (h : Cpy w G v p xs ys M) : IsG w v p := by
  obtain ⟨a, c, e, hL, _⟩ := h.rk.isL h.lk.1
  obtain ⟨a', c', e', hL', _⟩ := h.rv.isL h.lk.2
  cases e
  cases e'
  exact ⟨hL, hL', h.ki⟩
theorem Cpy.below {w w' : World} {G : Nat} {v : Pv} {p : Pg} {xs ys : List Value} {M : Nat} (h : Cpy w G v p xs ys M) (hb : Below w.heap.size w w') : Cpy w' G v p xs ys M := ⟨h.rk.below hb, h.rv.below hb, h.ki.below hb, fun b off e => by
  obtain ⟨h1, cs, f, h2⟩ := h.kf b off e
  exact ⟨h1, cs, f, (hb.block _ (heap_ltN h2)).trans h2⟩, h.lk, h.am, h.bm⟩
set_option maxHeartbeats 4000000 in
/-- ladingref06.Copy -/
theorem rcopy_any (v : Pv) (p : Pg) (w : World) (h : IsG w v p) (hc : FewP v) (hs : (∀ b ∈ p.keys, b.length ≤ 2000000) ∧ ∀ b ∈ p.vals, b.length ≤ 2000000) (lf : Bool) :
    Calls Try.prog 12 #[.agg (pgc lf v)] w fun e w' => ∃ v' xs ys M, e = .returned (.agg (pgc lf v')) ∧ Cpy w' (w.heap.size + 2) v' p xs ys M ∧ v'.kn = v.kn ∧ v'.vn = v.vn ∧ v'.inn = v.inn ∧ Below w.heap.size w w' := by
  obtain ⟨w2, hV0⟩ : ∃ V0, V0 = (w.alloc (.cells (pgc lf v) 25)).alloc (.cells pg0c 25) := ⟨_, rfl⟩
  have HB2 : Hid (Below w.heap.size w w2) := hide (by rw [hV0]; exact ((Below.refl _ w).alloc (Nat.le_refl _) _).alloc (by simp) _)
  have HSZ : Hid (w2.heap.size = w.heap.size + 2) := hide (by rw [hV0]; simp)
  have HX2 : Hid (w2.heap[w.heap.size]? = some (.cells (pgc lf v) 25 (0, 0))) := hide (by rw [hV0, heap_al, heap_al, World.size_alloc, if_neg (by omega), if_pos rfl])
  have HZ2 : Hid (w2.heap[w.heap.size + 1]? = some (.cells pg0c 25 (0, 0))) := hide (by rw [hV0, heap_al, World.size_alloc, if_pos rfl])
  have HG := hide h
  have HLN : Hid (p.keys.length = v.kn ∧ p.vals.length = v.vn ∧ p.kids.length = v.inn) := hide ⟨h.keys.1, h.vals.1, h.kids.1⟩
  have HFW := hide hc
  have HSS := hide hs
  have HLW : Hid (w.heap.size + 1 ≤ w2.heap.size) := hide (by rw [HSZ.out]; omega)
  have HLK : Hid (∀ W, Below w2.heap.size w2 W → Calls Try.prog 33 #[.slice v.ka v.kn v.kc] W fun e w' => ∃ u xs, e = .returned u ∧ w'.ownsRow W.heap.size 26 1 u v.kn xs ∧ ElT w' W.heap.size xs p.keys ∧ Below W.heap.size W w') := hide (fun W hW => rlists_any v.ka v.kn v.kc p.keys W ((HG.out.keys.below HB2.out).below hW) HFW.out.1 HSS.out.1)
  have HLV : Hid (∀ W, Below w2.heap.size w2 W → Calls Try.prog 33 #[.slice v.va v.vn v.vc] W fun e w' => ∃ u xs, e = .returned u ∧ w'.ownsRow W.heap.size 26 1 u v.vn xs ∧ ElT w' W.heap.size xs p.vals ∧ Below W.heap.size W w') := hide (fun W hW => rlists_any v.va v.vn v.vc p.vals W ((HG.out.vals.below HB2.out).below hW) HFW.out.2.1 HSS.out.2)
  clear h hc hs
  obtain ⟨ka, kn, kc, va, vn, vc, ia, inn, ic⟩ := v
  try dsimp only at HX2 HLN HLK HLV hV0
  try dsimp only
  go_enter Try.func12, Try.ntmps12
  go_wp2_with fail
  try rw [← hV0]
  clear hV0
  have HCw2 : Hid (Below w2.heap.size w2 w2) := hide (Below.refl _ _)
  have HS : Hid (∀ W : World, Below (w.heap.size + 1) w2 W → W.cell? ⟨w.heap.size, 0, none⟩ = some (.bool lf) ∧ W.cell? ⟨w.heap.size, 1, none⟩ = some (.slice ka kn kc) ∧ W.cell? ⟨w.heap.size, 2, none⟩ = some (.slice va vn vc) ∧ W.cell? ⟨w.heap.size, 3, none⟩ = some (.slice ia inn ic)) := hide (fun W hW => BlkG.cells (v := ⟨ka, kn, kc, va, vn, vc, ia, inn, ic⟩) ((hW.block _ (by omega)).trans HX2.out))
  refine wp_region_held_drew (S := fun W : World => W.cell? ⟨w.heap.size, 0, none⟩ = some (.bool lf) ∧ W.cell? ⟨w.heap.size, 1, none⟩ = some (.slice ka kn kc) ∧ W.cell? ⟨w.heap.size, 2, none⟩ = some (.slice va vn vc) ∧ W.cell? ⟨w.heap.size, 3, none⟩ = some (.slice ia inn ic)) (by kernel_rfl) ?hSc (fun hHeld => ?_)
  case hSc => exact HS.out _ (Below.refl _ _).drew
  refine hTake (i := 0) (v := ?v0u1) (some 3) rfl rfl (by kernel_rfl) (by kernel_rfl) (by kernel_rfl) (fun _ _ _ h => h) (by rfl) (by assumption) ?hy0u1 ?hn0u1
  case hy0u1 => (intro w hSw; (try dsimp only at hSw); go_simp; try with_reducible rfl)
  try simp only [Act.put, List.setIfInBounds_toArray, List.set_cons_zero, List.set_cons_succ]
  refine hTake (i := 1) (v := ?v1u2) (some 4) rfl rfl (by kernel_rfl) (by kernel_rfl) (by kernel_rfl) (fun _ _ _ h => h) (by rfl) (by assumption) ?hy1u2 ?hn1u2
  case hy1u2 => (intro w hSw; (try dsimp only at hSw); go_simp; try with_reducible rfl)
  try simp only [Act.put, List.setIfInBounds_toArray, List.set_cons_zero, List.set_cons_succ]
  refine hTake (i := 2) (v := ?v2u3) (some 5) rfl rfl (by kernel_rfl) (by kernel_rfl) (by kernel_rfl) (fun _ _ _ h => h) (by rfl) (by assumption) ?hy2u3 ?hn2u3
  case hy2u3 => (intro w hSw; (try dsimp only at hSw); go_simp; try with_reducible rfl)
  try simp only [Act.put, List.setIfInBounds_toArray, List.set_cons_zero, List.set_cons_succ]
  refine hTake (i := 3) (v := ?v3u4) (some 6) rfl rfl (by kernel_rfl) (by kernel_rfl) (by kernel_rfl) (fun _ _ _ h => h) (by rfl) (by assumption) ?hy3u4 ?hn3u4
  case hy3u4 => (intro w hSw; (try dsimp only at hSw); go_simp; try with_reducible rfl)
  try simp only [Act.put, List.setIfInBounds_toArray, List.set_cons_zero, List.set_cons_succ]
  refine hTake (i := 5) (v := ?v5u5) (some 8) rfl rfl (by kernel_rfl) (by kernel_rfl) (by kernel_rfl) (fun _ _ _ h => h) (by rfl) (by assumption) ?hy5u5 ?hn5u5
  case hy5u5 => (intro w hSw; (try dsimp only at hSw); go_simp; try with_reducible rfl)
  try simp only [Act.put, List.setIfInBounds_toArray, List.set_cons_zero, List.set_cons_succ]
  refine hTake (i := 6) (v := ?v6u6) (some 9) rfl rfl (by kernel_rfl) (by kernel_rfl) (by kernel_rfl) (fun _ _ _ h => h) (by rfl) (by assumption) ?hy6u6 ?hn6u6
  case hy6u6 => (intro w hSw; (try dsimp only at hSw); go_simp; try with_reducible rfl)
  try simp only [Act.put, List.setIfInBounds_toArray, List.set_cons_zero, List.set_cons_succ]
  refine hTake (i := 9) (v := ?v9u7) (some 12) rfl rfl (by kernel_rfl) (by kernel_rfl) (by kernel_rfl) (fun _ _ _ h => h) (by rfl) (by assumption) ?hy9u7 ?hn9u7
  case hy9u7 => (intro w hSw; (try dsimp only at hSw); go_simp; try with_reducible rfl)
  try simp only [Act.put, List.setIfInBounds_toArray, List.set_cons_zero, List.set_cons_succ]
  refine hTake (i := 10) (v := ?v10u8) (some 13) rfl rfl (by kernel_rfl) (by kernel_rfl) (by kernel_rfl) (fun _ _ _ h => h) (by rfl) (by assumption) ?hy10u8 ?hn10u8
  case hy10u8 => (intro w hSw; (try dsimp only at hSw); go_simp; try with_reducible rfl)
  try simp only [Act.put, List.setIfInBounds_toArray, List.set_cons_zero, List.set_cons_succ]
  obtain ⟨Wd, hWd⟩ : ∃ Wd, Wd = w2.drew := ⟨_, rfl⟩
  rw [← hWd]
  have HBnWd : Hid (Below w2.heap.size w2 Wd) := hide (by rw [hWd]; exact (Below.refl _ _).drew)
  clear hWd
  have HCWd : Hid (Below w2.heap.size w2 Wd) := hide (HCw2.out.trans (HBnWd.out.mono HCw2.out.size))
  refine hTwo (i := 4) (j := 8) rfl rfl (by kernel_rfl) (fun K hK => ?_) (fun K hK => ?_)
  · go_simp
    refine (HLK.out Wd HCWd.out).mono ?_
    rintro e W9 ⟨uk, xk, rfl, hok, hek, hbn⟩
    have HBnW9 := hide hbn
    clear hbn
    have HCW9 : Hid (Below w2.heap.size w2 W9) := hide (HCWd.out.trans (HBnW9.out.mono HCWd.out.size))
    have HRk : Hid (RowT W9 (w.heap.size + 2) kn uk xk p.keys) := hide (RowT.mono ⟨hok, hek⟩ (by have := HCWd.out.size; have := HSZ.out; omega))
    have HFk := hide hok
    clear hok hek
    refine hK.out _ _ (HS.out _ (HCW9.out.mono HLW.out)) (fun hHeld => ?_)
    clear hK K
    try simp only [Act.put, List.setIfInBounds_toArray, List.set_cons_zero, List.set_cons_succ]
    refine hTwo (i := 7) (j := 8) rfl rfl (by kernel_rfl) (fun K hK => ?_) (fun K hK => ?_)
    · have HAM : Hid (∀ g, uk.ownBlock = some g → g < W9.heap.size) := hide (fun g hg => (HRk.out.own.lt g hg).2)
      obtain ⟨M, hM⟩ : ∃ M, M = W9.heap.size := ⟨_, rfl⟩
      rw [← hM] at HAM
      go_simp
      refine (HLV.out W9 HCW9.out).mono ?_
      rintro e W10 ⟨uv, yv, rfl, hov, hev, hbn⟩
      have HBnW10 := hide hbn
      clear hbn
      have HCW10 : Hid (Below w2.heap.size w2 W10) := hide (HCW9.out.trans (HBnW10.out.mono HCW9.out.size))
      have rk_W10 := hide (HRk.out.below HBnW10.out)
      clear HRk
      have HRv : Hid (RowT W10 (w.heap.size + 2) vn uv yv p.vals) := hide (RowT.mono ⟨hov, hev⟩ (by have := HCW9.out.size; have := HSZ.out; omega))
      have HBM : Hid (∀ g, uv.ownBlock = some g → M ≤ g) := hide (fun g hg => by rw [hM]; exact (hov.lt g hg).1)
      clear hov hev hM
      refine hK.out _ _ (HS.out _ (HCW10.out.mono HLW.out)) (fun hHeld => ?_)
      clear hK K
      try simp only [Act.put, List.setIfInBounds_toArray, List.set_cons_zero, List.set_cons_succ]
      refine hOne (i := 8) rfl (by kernel_rfl) (fun K hK => ?_)
      go_simp
      obtain ⟨W11, hc2⟩ : ∃ W, W = W10.alloc (.cells #[] 3) := ⟨_, rfl⟩
      rw [← hc2]
      obtain ⟨qi, hq⟩ : ∃ q, q = W10.heap.size := ⟨_, rfl⟩
      rw [← hq]
      have HOi : Hid (W11.ownsRow (w.heap.size + 2) 3 1 (.slice (some ⟨qi, 0, none⟩) 0 0) 0 []) := hide (by rw [hc2, hq]; exact owns_emptyK _ _ (by have := HCW10.out.size; have := HSZ.out; omega))
      have HBnW11 : Hid (Below W10.heap.size W10 W11) := hide (by rw [hc2]; exact (Below.refl _ _).alloc (Nat.le_refl _) _)
      clear hc2 hq
      have HCW11 : Hid (Below w2.heap.size w2 W11) := hide (HCW10.out.trans (HBnW11.out.mono HCW10.out.size))
      have rk_W11 := hide (rk_W10.out.below HBnW11.out)
      clear rk_W10
      have rv_W11 := hide (HRv.out.below HBnW11.out)
      clear HRv
      refine hK.out _ _ (HS.out _ (HCW11.out.mono HLW.out)) (fun hHeld => ?_)
      clear hK K
      try simp only [Act.put, List.setIfInBounds_toArray, List.set_cons_zero, List.set_cons_succ]
      refine hOne (i := 11) rfl (by kernel_rfl) (fun K hK => ?_)
      rw [if_pos (by rfl)]
      refine wp_valsK _ _ rfl (w.heap.size + 2) _ 0 [] rfl HOi.out ia inn ic (kv p.kids) rfl (((HG.out.kids.below HB2.out).below HCW11.out).vs) (by have h9 : inn ≤ 2000000 := HFW.out.2.2; omega) (by have := HCW11.out.size; have := HSZ.out; omega) ?_
      intro v4 w4 HN4
      have HC4 : Hid (Below w2.heap.size w2 w4) := hide (HCW11.out.grown HN4.out.2 HCW11.out.size (fun g hg => by have := (HOi.out.lt g hg).1; have := HSZ.out; omega))
      have HR1 := hide (rk_W11.out.grownK HN4.out.2 HOi.out)
      have HR2 := hide (rv_W11.out.grownK HN4.out.2 HOi.out)
      have HO4 : Hid (w4.ownsRow (w.heap.size + 2) 3 1 v4 inn (kv p.kids)) := hide (by have h1 := HN4.out.1; simp only [Nat.zero_add, List.nil_append] at h1; exact h1)
      clear HN4 rk_W11 rv_W11 HOi HCW11
      refine hK.out _ _ (HS.out _ (HC4.out.mono HLW.out)) (fun hHeld => ?_)
      clear hK K
      try simp only [Act.put, List.setIfInBounds_toArray, List.set_cons_zero, List.set_cons_succ]
      obtain ⟨a1, c1, rfl, hL1, hN1, hF1⟩ := HR1.out.isL HLN.out.1
      obtain ⟨a2, c2, rfl, hL2, hN2, hF2⟩ := HR2.out.isL HLN.out.2.1
      obtain ⟨a3, c3, rfl, hK3, hF3⟩ := own_isK HLN.out.2.2 (fun i hi => (HG.out.kids.2.2.2.2 i hi).1) HO4.out
      have HCP : Hid (Cpy w4 (w.heap.size + 2) ⟨a1, kn, c1, a2, vn, c2, a3, inn, c3⟩ p xk yv M) := hide ⟨HR1.out, HR2.out, hK3, fun b off e => by
        subst e
        rcases HO4.out.2 with ⟨e, _⟩ | ⟨g, cap, cur, e, hb, hg, _⟩
        · cases e
        · cases e
          exact ⟨hb, cur, _, hg⟩, ⟨HLN.out.1, HLN.out.2.1⟩, fun b off e => HAM.out b (by have e' : a1 = some ⟨b, off, none⟩ := e; rw [e']; rfl), fun b off e => HBM.out b (by have e' : a2 = some ⟨b, off, none⟩ := e; rw [e']; rfl)⟩
      clear hL1 hN1 hF1 hL2 hN2 hF2 hK3 hF3 HR1 HR2 HO4
      refine hTake (i := 12) (v := ?v12u12) (some 15) rfl rfl (by kernel_rfl) (by kernel_rfl) (by kernel_rfl) (fun _ _ _ h => h) (by rfl) (by assumption) ?hy12u12 ?hn12u12
      case hy12u12 => (intro w hSw; (try dsimp only at hSw); go_simp; try with_reducible rfl)
      try simp only [Act.put, List.setIfInBounds_toArray, List.set_cons_zero, List.set_cons_succ]
      have HZc : Hid (w4.heap[w.heap.size + 1]? = some (.cells pg0c 25 (0, 0))) := hide ((HC4.out.block _ (heap_ltN HZ2.out)).trans HZ2.out)
      have z0 : w4.cell? ⟨w.heap.size + 1, 0, none⟩ = some (.bool false) := cell_blkN HZc.out rfl
      have f0 := frzN HZc.out 0
      have z1 : w4.cell? ⟨w.heap.size + 1, 1, none⟩ = some (.slice none 0 0) := cell_blkN HZc.out rfl
      have f1 := frzN HZc.out 1
      have z2 : w4.cell? ⟨w.heap.size + 1, 2, none⟩ = some (.slice none 0 0) := cell_blkN HZc.out rfl
      have f2 := frzN HZc.out 2
      have z3 : w4.cell? ⟨w.heap.size + 1, 3, none⟩ = some (.slice none 0 0) := cell_blkN HZc.out rfl
      have f3 := frzN HZc.out 3
      obtain ⟨Wf, hWf⟩ : ∃ W, W = ((((w4.setCell ⟨w.heap.size + 1, 0, none⟩ (.bool lf)).setCell ⟨w.heap.size + 1, 1, none⟩ (.slice a1 kn c1)).setCell ⟨w.heap.size + 1, 2, none⟩ (.slice a2 vn c2)).setCell ⟨w.heap.size + 1, 3, none⟩ (.slice a3 inn c3)) := ⟨_, rfl⟩
      have HWF := hide hWf
      have HSF : Hid (Below (w.heap.size + 1) w2 Wf) := hide (by rw [hWf]; exact below4 (HC4.out.mono HLW.out) (Nat.le_refl _) _ _ _ _)
      refine hOne (i := 13) rfl (by kernel_rfl) (fun K hK => ?_)
      go_simp
      rw [← hWf]
      clear hWf z0 z1 z2 z3 f0 f1 f2 f3
      refine hK.out _ _ (HS.out _ HSF.out) (fun hHeld => ?_)
      clear hK K
      try simp only [Act.put, List.setIfInBounds_toArray, List.set_cons_zero, List.set_cons_succ]
      refine wpAnyH_done (by kernel_rfl) ?_ _
      have HBLK : Hid (Wf.heap[w.heap.size + 1]? = some (.cells #[.bool lf, .slice a1 kn c1, .slice a2 vn c2, .slice a3 inn c3] 25 (0, 0))) := hide (by rw [HWF.out]; exact blk4 HZc.out _ _ _ _)
      have HCF : Hid (Cpy Wf (w.heap.size + 2) ⟨a1, kn, c1, a2, vn, c2, a3, inn, c3⟩ p xk yv M) := hide (by
        rw [HWF.out]
        refine ⟨HCP.out.rk.set4 (by omega) _ _ _ _, HCP.out.rv.set4 (by omega) _ _ _ _, ?_, fun b off e => ?_, HCP.out.lk, HCP.out.am, HCP.out.bm⟩
        · obtain ⟨g1, g2, g3, g4, g5⟩ := HCP.out.ki
          refine ⟨g1, g2, g3, g4, fun i hi => ?_⟩
          obtain ⟨ht, b, off, e, hlt, hcc⟩ := g5 i hi
          exact ⟨ht, b, off, e, by rw [size4]; exact hlt, (World.cell?_of_block (out4 (by have := (HCP.out.kf b off e).1; show b ≠ _; omega) _ _ _ _)).trans hcc⟩
        · obtain ⟨h1, cs, f, h2⟩ := HCP.out.kf b off e
          exact ⟨h1, cs, f, (out4 (by omega) _ _ _ _).trans h2⟩)
      have HBF : Hid (Below w.heap.size w Wf) := hide (by rw [HWF.out]; exact below4 (HB2.out.trans (HC4.out.mono HB2.out.size)) (by omega) _ _ _ _)
      clear HWF HZc HSF HCP HS HC4 hHeld
      go_wp2
      (try simp only [Exit.inBlock, Exit.then])
      refine bodyPost_ret (resP1 rfl _ _ (w.heap.size + 1) _ HBLK.out rfl rfl) rfl ?_
      exact ⟨⟨a1, kn, c1, a2, vn, c2, a3, inn, c3⟩, xk, yv, M, rfl, HCF.out, rfl, rfl, rfl, HBF.out⟩
    · go_simp
      obtain ⟨W13, hc2⟩ : ∃ W, W = W9.alloc (.cells #[] 3) := ⟨_, rfl⟩
      rw [← hc2]
      obtain ⟨qi, hq⟩ : ∃ q, q = W9.heap.size := ⟨_, rfl⟩
      rw [← hq]
      have HOi : Hid (W13.ownsRow (w.heap.size + 2) 3 1 (.slice (some ⟨qi, 0, none⟩) 0 0) 0 []) := hide (by rw [hc2, hq]; exact owns_emptyK _ _ (by have := HCW9.out.size; have := HSZ.out; omega))
      have HBnW13 : Hid (Below W9.heap.size W9 W13) := hide (by rw [hc2]; exact (Below.refl _ _).alloc (Nat.le_refl _) _)
      clear hc2 hq
      have HCW13 : Hid (Below w2.heap.size w2 W13) := hide (HCW9.out.trans (HBnW13.out.mono HCW9.out.size))
      have rk_W13 := hide (HRk.out.below HBnW13.out)
      clear HRk
      refine hK.out _ _ (HS.out _ (HCW13.out.mono HLW.out)) (fun hHeld => ?_)
      clear hK K
      try simp only [Act.put, List.setIfInBounds_toArray, List.set_cons_zero, List.set_cons_succ]
      refine hOne (i := 7) rfl (by kernel_rfl) (fun K hK => ?_)
      have HAM : Hid (∀ g, uk.ownBlock = some g → g < W13.heap.size) := hide (fun g hg => (rk_W13.out.own.lt g hg).2)
      obtain ⟨M, hM⟩ : ∃ M, M = W13.heap.size := ⟨_, rfl⟩
      rw [← hM] at HAM
      go_simp
      refine (HLV.out W13 HCW13.out).mono ?_
      rintro e W14 ⟨uv, yv, rfl, hov, hev, hbn⟩
      have HBnW14 := hide hbn
      clear hbn
      have HCW14 : Hid (Below w2.heap.size w2 W14) := hide (HCW13.out.trans (HBnW14.out.mono HCW13.out.size))
      have rk_W14 := hide (rk_W13.out.below HBnW14.out)
      clear rk_W13
      have oi_W14 := hide (own_below HOi.out HBnW14.out)
      clear HOi
      have HRv : Hid (RowT W14 (w.heap.size + 2) vn uv yv p.vals) := hide (RowT.mono ⟨hov, hev⟩ (by have := HCW13.out.size; have := HSZ.out; omega))
      have HBM : Hid (∀ g, uv.ownBlock = some g → M ≤ g) := hide (fun g hg => by rw [hM]; exact (hov.lt g hg).1)
      clear hov hev hM
      refine hK.out _ _ (HS.out _ (HCW14.out.mono HLW.out)) (fun hHeld => ?_)
      clear hK K
      try simp only [Act.put, List.setIfInBounds_toArray, List.set_cons_zero, List.set_cons_succ]
      refine hOne (i := 11) rfl (by kernel_rfl) (fun K hK => ?_)
      rw [if_pos (by rfl)]
      refine wp_valsK _ _ rfl (w.heap.size + 2) _ 0 [] rfl oi_W14.out ia inn ic (kv p.kids) rfl (((HG.out.kids.below HB2.out).below HCW14.out).vs) (by have h9 : inn ≤ 2000000 := HFW.out.2.2; omega) (by have := HCW14.out.size; have := HSZ.out; omega) ?_
      intro v4 w4 HN4
      have HC4 : Hid (Below w2.heap.size w2 w4) := hide (HCW14.out.grown HN4.out.2 HCW14.out.size (fun g hg => by have := (oi_W14.out.lt g hg).1; have := HSZ.out; omega))
      have HR1 := hide (rk_W14.out.grownK HN4.out.2 oi_W14.out)
      have HR2 := hide (HRv.out.grownK HN4.out.2 oi_W14.out)
      have HO4 : Hid (w4.ownsRow (w.heap.size + 2) 3 1 v4 inn (kv p.kids)) := hide (by have h1 := HN4.out.1; simp only [Nat.zero_add, List.nil_append] at h1; exact h1)
      clear HN4 rk_W14 HRv oi_W14 HCW14
      refine hK.out _ _ (HS.out _ (HC4.out.mono HLW.out)) (fun hHeld => ?_)
      clear hK K
      try simp only [Act.put, List.setIfInBounds_toArray, List.set_cons_zero, List.set_cons_succ]
      obtain ⟨a1, c1, rfl, hL1, hN1, hF1⟩ := HR1.out.isL HLN.out.1
      obtain ⟨a2, c2, rfl, hL2, hN2, hF2⟩ := HR2.out.isL HLN.out.2.1
      obtain ⟨a3, c3, rfl, hK3, hF3⟩ := own_isK HLN.out.2.2 (fun i hi => (HG.out.kids.2.2.2.2 i hi).1) HO4.out
      have HCP : Hid (Cpy w4 (w.heap.size + 2) ⟨a1, kn, c1, a2, vn, c2, a3, inn, c3⟩ p xk yv M) := hide ⟨HR1.out, HR2.out, hK3, fun b off e => by
        subst e
        rcases HO4.out.2 with ⟨e, _⟩ | ⟨g, cap, cur, e, hb, hg, _⟩
        · cases e
        · cases e
          exact ⟨hb, cur, _, hg⟩, ⟨HLN.out.1, HLN.out.2.1⟩, fun b off e => HAM.out b (by have e' : a1 = some ⟨b, off, none⟩ := e; rw [e']; rfl), fun b off e => HBM.out b (by have e' : a2 = some ⟨b, off, none⟩ := e; rw [e']; rfl)⟩
      clear hL1 hN1 hF1 hL2 hN2 hF2 hK3 hF3 HR1 HR2 HO4
      refine hTake (i := 12) (v := ?v12u15) (some 15) rfl rfl (by kernel_rfl) (by kernel_rfl) (by kernel_rfl) (fun _ _ _ h => h) (by rfl) (by assumption) ?hy12u15 ?hn12u15
      case hy12u15 => (intro w hSw; (try dsimp only at hSw); go_simp; try with_reducible rfl)
      try simp only [Act.put, List.setIfInBounds_toArray, List.set_cons_zero, List.set_cons_succ]
      have HZc : Hid (w4.heap[w.heap.size + 1]? = some (.cells pg0c 25 (0, 0))) := hide ((HC4.out.block _ (heap_ltN HZ2.out)).trans HZ2.out)
      have z0 : w4.cell? ⟨w.heap.size + 1, 0, none⟩ = some (.bool false) := cell_blkN HZc.out rfl
      have f0 := frzN HZc.out 0
      have z1 : w4.cell? ⟨w.heap.size + 1, 1, none⟩ = some (.slice none 0 0) := cell_blkN HZc.out rfl
      have f1 := frzN HZc.out 1
      have z2 : w4.cell? ⟨w.heap.size + 1, 2, none⟩ = some (.slice none 0 0) := cell_blkN HZc.out rfl
      have f2 := frzN HZc.out 2
      have z3 : w4.cell? ⟨w.heap.size + 1, 3, none⟩ = some (.slice none 0 0) := cell_blkN HZc.out rfl
      have f3 := frzN HZc.out 3
      obtain ⟨Wf, hWf⟩ : ∃ W, W = ((((w4.setCell ⟨w.heap.size + 1, 0, none⟩ (.bool lf)).setCell ⟨w.heap.size + 1, 1, none⟩ (.slice a1 kn c1)).setCell ⟨w.heap.size + 1, 2, none⟩ (.slice a2 vn c2)).setCell ⟨w.heap.size + 1, 3, none⟩ (.slice a3 inn c3)) := ⟨_, rfl⟩
      have HWF := hide hWf
      have HSF : Hid (Below (w.heap.size + 1) w2 Wf) := hide (by rw [hWf]; exact below4 (HC4.out.mono HLW.out) (Nat.le_refl _) _ _ _ _)
      refine hOne (i := 13) rfl (by kernel_rfl) (fun K hK => ?_)
      go_simp
      rw [← hWf]
      clear hWf z0 z1 z2 z3 f0 f1 f2 f3
      refine hK.out _ _ (HS.out _ HSF.out) (fun hHeld => ?_)
      clear hK K
      try simp only [Act.put, List.setIfInBounds_toArray, List.set_cons_zero, List.set_cons_succ]
      refine wpAnyH_done (by kernel_rfl) ?_ _
      have HBLK : Hid (Wf.heap[w.heap.size + 1]? = some (.cells #[.bool lf, .slice a1 kn c1, .slice a2 vn c2, .slice a3 inn c3] 25 (0, 0))) := hide (by rw [HWF.out]; exact blk4 HZc.out _ _ _ _)
      have HCF : Hid (Cpy Wf (w.heap.size + 2) ⟨a1, kn, c1, a2, vn, c2, a3, inn, c3⟩ p xk yv M) := hide (by
        rw [HWF.out]
        refine ⟨HCP.out.rk.set4 (by omega) _ _ _ _, HCP.out.rv.set4 (by omega) _ _ _ _, ?_, fun b off e => ?_, HCP.out.lk, HCP.out.am, HCP.out.bm⟩
        · obtain ⟨g1, g2, g3, g4, g5⟩ := HCP.out.ki
          refine ⟨g1, g2, g3, g4, fun i hi => ?_⟩
          obtain ⟨ht, b, off, e, hlt, hcc⟩ := g5 i hi
          exact ⟨ht, b, off, e, by rw [size4]; exact hlt, (World.cell?_of_block (out4 (by have := (HCP.out.kf b off e).1; show b ≠ _; omega) _ _ _ _)).trans hcc⟩
        · obtain ⟨h1, cs, f, h2⟩ := HCP.out.kf b off e
          exact ⟨h1, cs, f, (out4 (by omega) _ _ _ _).trans h2⟩)
      have HBF : Hid (Below w.heap.size w Wf) := hide (by rw [HWF.out]; exact below4 (HB2.out.trans (HC4.out.mono HB2.out.size)) (by omega) _ _ _ _)
      clear HWF HZc HSF HCP HS HC4 hHeld
      go_wp2
      (try simp only [Exit.inBlock, Exit.then])
      refine bodyPost_ret (resP1 rfl _ _ (w.heap.size + 1) _ HBLK.out rfl rfl) rfl ?_
      exact ⟨⟨a1, kn, c1, a2, vn, c2, a3, inn, c3⟩, xk, yv, M, rfl, HCF.out, rfl, rfl, rfl, HBF.out⟩
  · go_simp
    obtain ⟨W16, hc2⟩ : ∃ W, W = Wd.alloc (.cells #[] 3) := ⟨_, rfl⟩
    rw [← hc2]
    obtain ⟨qi, hq⟩ : ∃ q, q = Wd.heap.size := ⟨_, rfl⟩
    rw [← hq]
    have HOi : Hid (W16.ownsRow (w.heap.size + 2) 3 1 (.slice (some ⟨qi, 0, none⟩) 0 0) 0 []) := hide (by rw [hc2, hq]; exact owns_emptyK _ _ (by have := HCWd.out.size; have := HSZ.out; omega))
    have HBnW16 : Hid (Below Wd.heap.size Wd W16) := hide (by rw [hc2]; exact (Below.refl _ _).alloc (Nat.le_refl _) _)
    clear hc2 hq
    have HCW16 : Hid (Below w2.heap.size w2 W16) := hide (HCWd.out.trans (HBnW16.out.mono HCWd.out.size))
    refine hK.out _ _ (HS.out _ (HCW16.out.mono HLW.out)) (fun hHeld => ?_)
    clear hK K
    try simp only [Act.put, List.setIfInBounds_toArray, List.set_cons_zero, List.set_cons_succ]
    refine hOne (i := 4) rfl (by kernel_rfl) (fun K hK => ?_)
    go_simp
    refine (HLK.out W16 HCW16.out).mono ?_
    rintro e W17 ⟨uk, xk, rfl, hok, hek, hbn⟩
    have HBnW17 := hide hbn
    clear hbn
    have HCW17 : Hid (Below w2.heap.size w2 W17) := hide (HCW16.out.trans (HBnW17.out.mono HCW16.out.size))
    have oi_W17 := hide (own_below HOi.out HBnW17.out)
    clear HOi
    have HRk : Hid (RowT W17 (w.heap.size + 2) kn uk xk p.keys) := hide (RowT.mono ⟨hok, hek⟩ (by have := HCW16.out.size; have := HSZ.out; omega))
    have HFk := hide hok
    clear hok hek
    refine hK.out _ _ (HS.out _ (HCW17.out.mono HLW.out)) (fun hHeld => ?_)
    clear hK K
    try simp only [Act.put, List.setIfInBounds_toArray, List.set_cons_zero, List.set_cons_succ]
    refine hOne (i := 7) rfl (by kernel_rfl) (fun K hK => ?_)
    have HAM : Hid (∀ g, uk.ownBlock = some g → g < W17.heap.size) := hide (fun g hg => (HRk.out.own.lt g hg).2)
    obtain ⟨M, hM⟩ : ∃ M, M = W17.heap.size := ⟨_, rfl⟩
    rw [← hM] at HAM
    go_simp
    refine (HLV.out W17 HCW17.out).mono ?_
    rintro e W18 ⟨uv, yv, rfl, hov, hev, hbn⟩
    have HBnW18 := hide hbn
    clear hbn
    have HCW18 : Hid (Below w2.heap.size w2 W18) := hide (HCW17.out.trans (HBnW18.out.mono HCW17.out.size))
    have oi_W18 := hide (own_below oi_W17.out HBnW18.out)
    clear oi_W17
    have rk_W18 := hide (HRk.out.below HBnW18.out)
    clear HRk
    have HRv : Hid (RowT W18 (w.heap.size + 2) vn uv yv p.vals) := hide (RowT.mono ⟨hov, hev⟩ (by have := HCW17.out.size; have := HSZ.out; omega))
    have HBM : Hid (∀ g, uv.ownBlock = some g → M ≤ g) := hide (fun g hg => by rw [hM]; exact (hov.lt g hg).1)
    clear hov hev hM
    refine hK.out _ _ (HS.out _ (HCW18.out.mono HLW.out)) (fun hHeld => ?_)
    clear hK K
    try simp only [Act.put, List.setIfInBounds_toArray, List.set_cons_zero, List.set_cons_succ]
    refine hOne (i := 11) rfl (by kernel_rfl) (fun K hK => ?_)
    rw [if_pos (by rfl)]
    refine wp_valsK _ _ rfl (w.heap.size + 2) _ 0 [] rfl oi_W18.out ia inn ic (kv p.kids) rfl (((HG.out.kids.below HB2.out).below HCW18.out).vs) (by have h9 : inn ≤ 2000000 := HFW.out.2.2; omega) (by have := HCW18.out.size; have := HSZ.out; omega) ?_
    intro v4 w4 HN4
    have HC4 : Hid (Below w2.heap.size w2 w4) := hide (HCW18.out.grown HN4.out.2 HCW18.out.size (fun g hg => by have := (oi_W18.out.lt g hg).1; have := HSZ.out; omega))
    have HR1 := hide (rk_W18.out.grownK HN4.out.2 oi_W18.out)
    have HR2 := hide (HRv.out.grownK HN4.out.2 oi_W18.out)
    have HO4 : Hid (w4.ownsRow (w.heap.size + 2) 3 1 v4 inn (kv p.kids)) := hide (by have h1 := HN4.out.1; simp only [Nat.zero_add, List.nil_append] at h1; exact h1)
    clear HN4 rk_W18 HRv oi_W18 HCW18
    refine hK.out _ _ (HS.out _ (HC4.out.mono HLW.out)) (fun hHeld => ?_)
    clear hK K
    try simp only [Act.put, List.setIfInBounds_toArray, List.set_cons_zero, List.set_cons_succ]
    obtain ⟨a1, c1, rfl, hL1, hN1, hF1⟩ := HR1.out.isL HLN.out.1
    obtain ⟨a2, c2, rfl, hL2, hN2, hF2⟩ := HR2.out.isL HLN.out.2.1
    obtain ⟨a3, c3, rfl, hK3, hF3⟩ := own_isK HLN.out.2.2 (fun i hi => (HG.out.kids.2.2.2.2 i hi).1) HO4.out
    have HCP : Hid (Cpy w4 (w.heap.size + 2) ⟨a1, kn, c1, a2, vn, c2, a3, inn, c3⟩ p xk yv M) := hide ⟨HR1.out, HR2.out, hK3, fun b off e => by
      subst e
      rcases HO4.out.2 with ⟨e, _⟩ | ⟨g, cap, cur, e, hb, hg, _⟩
      · cases e
      · cases e
        exact ⟨hb, cur, _, hg⟩, ⟨HLN.out.1, HLN.out.2.1⟩, fun b off e => HAM.out b (by have e' : a1 = some ⟨b, off, none⟩ := e; rw [e']; rfl), fun b off e => HBM.out b (by have e' : a2 = some ⟨b, off, none⟩ := e; rw [e']; rfl)⟩
    clear hL1 hN1 hF1 hL2 hN2 hF2 hK3 hF3 HR1 HR2 HO4
    refine hTake (i := 12) (v := ?v12u19) (some 15) rfl rfl (by kernel_rfl) (by kernel_rfl) (by kernel_rfl) (fun _ _ _ h => h) (by rfl) (by assumption) ?hy12u19 ?hn12u19
    case hy12u19 => (intro w hSw; (try dsimp only at hSw); go_simp; try with_reducible rfl)
    try simp only [Act.put, List.setIfInBounds_toArray, List.set_cons_zero, List.set_cons_succ]
    have HZc : Hid (w4.heap[w.heap.size + 1]? = some (.cells pg0c 25 (0, 0))) := hide ((HC4.out.block _ (heap_ltN HZ2.out)).trans HZ2.out)
    have z0 : w4.cell? ⟨w.heap.size + 1, 0, none⟩ = some (.bool false) := cell_blkN HZc.out rfl
    have f0 := frzN HZc.out 0
    have z1 : w4.cell? ⟨w.heap.size + 1, 1, none⟩ = some (.slice none 0 0) := cell_blkN HZc.out rfl
    have f1 := frzN HZc.out 1
    have z2 : w4.cell? ⟨w.heap.size + 1, 2, none⟩ = some (.slice none 0 0) := cell_blkN HZc.out rfl
    have f2 := frzN HZc.out 2
    have z3 : w4.cell? ⟨w.heap.size + 1, 3, none⟩ = some (.slice none 0 0) := cell_blkN HZc.out rfl
    have f3 := frzN HZc.out 3
    obtain ⟨Wf, hWf⟩ : ∃ W, W = ((((w4.setCell ⟨w.heap.size + 1, 0, none⟩ (.bool lf)).setCell ⟨w.heap.size + 1, 1, none⟩ (.slice a1 kn c1)).setCell ⟨w.heap.size + 1, 2, none⟩ (.slice a2 vn c2)).setCell ⟨w.heap.size + 1, 3, none⟩ (.slice a3 inn c3)) := ⟨_, rfl⟩
    have HWF := hide hWf
    have HSF : Hid (Below (w.heap.size + 1) w2 Wf) := hide (by rw [hWf]; exact below4 (HC4.out.mono HLW.out) (Nat.le_refl _) _ _ _ _)
    refine hOne (i := 13) rfl (by kernel_rfl) (fun K hK => ?_)
    go_simp
    rw [← hWf]
    clear hWf z0 z1 z2 z3 f0 f1 f2 f3
    refine hK.out _ _ (HS.out _ HSF.out) (fun hHeld => ?_)
    clear hK K
    try simp only [Act.put, List.setIfInBounds_toArray, List.set_cons_zero, List.set_cons_succ]
    refine wpAnyH_done (by kernel_rfl) ?_ _
    have HBLK : Hid (Wf.heap[w.heap.size + 1]? = some (.cells #[.bool lf, .slice a1 kn c1, .slice a2 vn c2, .slice a3 inn c3] 25 (0, 0))) := hide (by rw [HWF.out]; exact blk4 HZc.out _ _ _ _)
    have HCF : Hid (Cpy Wf (w.heap.size + 2) ⟨a1, kn, c1, a2, vn, c2, a3, inn, c3⟩ p xk yv M) := hide (by
      rw [HWF.out]
      refine ⟨HCP.out.rk.set4 (by omega) _ _ _ _, HCP.out.rv.set4 (by omega) _ _ _ _, ?_, fun b off e => ?_, HCP.out.lk, HCP.out.am, HCP.out.bm⟩
      · obtain ⟨g1, g2, g3, g4, g5⟩ := HCP.out.ki
        refine ⟨g1, g2, g3, g4, fun i hi => ?_⟩
        obtain ⟨ht, b, off, e, hlt, hcc⟩ := g5 i hi
        exact ⟨ht, b, off, e, by rw [size4]; exact hlt, (World.cell?_of_block (out4 (by have := (HCP.out.kf b off e).1; show b ≠ _; omega) _ _ _ _)).trans hcc⟩
      · obtain ⟨h1, cs, f, h2⟩ := HCP.out.kf b off e
        exact ⟨h1, cs, f, (out4 (by omega) _ _ _ _).trans h2⟩)
    have HBF : Hid (Below w.heap.size w Wf) := hide (by rw [HWF.out]; exact below4 (HB2.out.trans (HC4.out.mono HB2.out.size)) (by omega) _ _ _ _)
    clear HWF HZc HSF HCP HS HC4 hHeld
    go_wp2
    (try simp only [Exit.inBlock, Exit.then])
    refine bodyPost_ret (resP1 rfl _ _ (w.heap.size + 1) _ HBLK.out rfl rfl) rfl ?_
    exact ⟨⟨a1, kn, c1, a2, vn, c2, a3, inn, c3⟩, xk, yv, M, rfl, HCF.out, rfl, rfl, rfl, HBF.out⟩
end Go.Proofs.Ytebikoekpbnpbaa

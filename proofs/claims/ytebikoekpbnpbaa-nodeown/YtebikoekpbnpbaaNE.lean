/- Check and Size -/
import Derived.Test.YtebikoekpbnpbaaND
namespace Go.Proofs.Ytebikoekpbnpbaa
open Go.RowKit Cod
set_option maxRecDepth 40000
set_option linter.unusedVariables false
set_option linter.unusedSimpArgs false
theorem leaf_short {p : Pg} (h : leafB p = true) : (∀ b ∈ p.keys, b.length ≤ 1024) ∧ (∀ b ∈ p.vals, b.length ≤ 1024) ∧ ∀ k ∈ p.kids, 1 ≤ k ∧ k < 1024 := by
  unfold leafB keysB shortB at h
  simp only [Bool.and_eq_true, decide_eq_true_eq, List.all_eq_true] at h
  obtain ⟨⟨⟨⟨_, _⟩, h3⟩, _, h4⟩, h5⟩ := h
  refine ⟨fun b hb => by have := h4 b hb; omega, fun b hb => by have := h5 b hb; omega, fun k hk => ?_⟩
  rw [List.length_eq_zero_iff.1 h3] at hk
  cases hk
theorem inner_short {p : Pg} (h : innerB p = true) : (∀ b ∈ p.keys, b.length ≤ 1024) ∧ (∀ b ∈ p.vals, b.length ≤ 1024) ∧ ∀ k ∈ p.kids, 1 ≤ k ∧ k < 1024 := by
  unfold innerB keysB shortB kidsB at h
  simp only [Bool.and_eq_true, decide_eq_true_eq, List.all_eq_true] at h
  obtain ⟨⟨⟨⟨⟨_, _⟩, _⟩, h4⟩, _, h5⟩, h6⟩ := h
  refine ⟨fun b hb => by have := h5 b hb; omega, fun b hb => ?_, fun k hk => h6 k hk⟩
  rw [List.length_eq_zero_iff.1 h4] at hb
  cases hb
theorem kind_short {p : Pg} (h : leafB p = true ∨ innerB p = true) : (∀ b ∈ p.keys, b.length ≤ 1024) ∧ (∀ b ∈ p.vals, b.length ≤ 1024) ∧ ∀ k ∈ p.kids, 1 ≤ k ∧ k < 1024 := h.elim leaf_short inner_short
theorem sizeP_le {p : Pg} (h : leafB p = true ∨ innerB p = true) (hc : p.keys.length ≤ 2000000 ∧ p.vals.length ≤ 2000000 ∧ p.kids.length ≤ 2000000) : sizeP p ≤ 9000000000 := by
  obtain ⟨h1, h2, h3⟩ := kind_short h
  have hs : ∀ l : List (List Nat), (∀ b ∈ l, b.length ≤ 1024) → sumB l ≤ l.length * 1034 := by
    intro l
    induction l with
    | nil => intro _; simp [sumB]
    | cons x r ih =>
      intro hl
      have i1 := ih (fun b hb => hl b (List.mem_cons_of_mem _ hb))
      have i2 := hl x (by simp)
      have i3 : nLen x.length ≤ 10 := nLen_le (by omega)
      unfold sumB at *
      simp [bSize]
      omega
  have hk : ∀ l : List Int, (∀ k ∈ l, 1 ≤ k ∧ k < 1024) → sumK l ≤ l.length * 10 := by
    intro l
    induction l with
    | nil => intro _; simp [sumK]
    | cons x r ih =>
      intro hl
      have i1 := ih (fun b hb => hl b (List.mem_cons_of_mem _ hb))
      have i2 := hl x (by simp)
      have i3 : nLen x.toNat ≤ 10 := nLen_le (by omega)
      unfold sumK at *
      simp
      omega
  have e1 := hs _ h1
  have e2 := hs _ h2
  have e3 := hk _ h3
  have e4 : nLen p.keys.length ≤ 10 := nLen_le (by omega)
  unfold sizeP
  omega
/-- few enough entries -/
def FewP (v : Pv) : Prop := v.kn ≤ 2000000 ∧ v.vn ≤ 2000000 ∧ v.inn ≤ 2000000
/-- what Size answers -/
def sizeE (p : Pg) : Int := if leafB p = true ∨ innerB p = true then (sizeP p : Int) else 0
set_option maxHeartbeats 2000000 in
theorem check_any (v : Pv) (p : Pg) (w : World) (h : IsG w v p) (hc : FewP v) : Calls Try.prog 18 #[.agg (pgc p.leaf v)] w fun e w' => e = .returned (.int .i64 (checkE p)) ∧ Below w.heap.size w w' := by
  have HB0 : Hid (Below w.heap.size w (w.alloc (.cells (pgc p.leaf v) 25))) := hide ((Below.refl _ w).alloc (Nat.le_refl _) _)
  have HX : Hid (BlkG (w.alloc (.cells (pgc p.leaf v) 25)) w.heap.size p.leaf v) := hide (heap_alloc_new _ _)
  have HG : Hid (∀ W : World, Below w.heap.size w W → IsG W v p) := hide (fun W hW => h.below hW)
  have HCN : Hid (p.keys.length ≤ 2000000 ∧ p.vals.length ≤ 2000000 ∧ p.kids.length ≤ 2000000) := hide ⟨by rw [h.keys.1]; exact hc.1, by rw [h.vals.1]; exact hc.2.1, by rw [h.kids.1]; exact hc.2.2⟩
  have HFW := hide hc
  have HIL := hide (isLeaf_any v p _ (HG.out _ HB0.out))
  have HR : Hid (checkE p = (if leafB p = true ∨ innerB p = true then (if 4096 < sizeP p then 7 else 0) else 2)) := hide rfl
  obtain ⟨lb, hlb⟩ : ∃ lb, leafB p = lb := ⟨_, rfl⟩
  obtain ⟨ib, hib⟩ : ∃ ib, innerB p = ib := ⟨_, rfl⟩
  have HII : Hid (∀ W : World, Below w.heap.size w W → Calls Try.prog 43 #[.agg (pgc p.leaf v)] W fun e w' => e = .returned (.bool ib) ∧ Below W.heap.size W w') := hide (fun W hW => by rw [← hib]; exact isInner_any v p W (HG.out W hW))
  have HSZ : Hid ((lb = true ∨ ib = true) → (∀ W : World, Below w.heap.size w W → Calls Try.prog 44 #[.agg (pgc p.leaf v)] W fun e w' => e = .returned (.int .i64 (sizeP p : Nat)) ∧ Below W.heap.size W w') ∧ sizeP p ≤ 9000000000) := hide (fun hk => by
    rw [← hlb, ← hib] at hk
    obtain ⟨k1, k2, k3⟩ := kind_short hk
    exact ⟨fun W hW => sizeOf_any v p W (HG.out W hW) k1 k2 k3 HFW.out, sizeP_le hk HCN.out⟩)
  rw [hlb] at HIL
  rw [hlb, hib] at HR
  clear hlb hib h hc
  generalize checkE p = R at *
  obtain ⟨lf, hlf⟩ : ∃ lf, p.leaf = lf := ⟨_, rfl⟩
  rw [hlf] at HB0 HX HIL HII HSZ
  rw [hlf]
  obtain ⟨S, hS⟩ : ∃ S, sizeP p = S := ⟨_, rfl⟩
  rw [hS] at HSZ HR
  clear hlf hS HG HCN HFW
  obtain ⟨ka, kn, kc, va, vn, vc, ia, inn, ic⟩ := v
  try dsimp only at HB0 HX HIL HII HSZ
  try dsimp only
  obtain ⟨q0, q1, q2, q3⟩ := HX.out.cells
  try dsimp only at q0 q1 q2 q3
  go_enter Try.func18, Try.ntmps18
  go_wp2_with fail
  generalize hV0 : (w.alloc (.cells #[.bool lf, .slice ka kn kc, .slice va vn vc, .slice ia inn ic] 25)) = V0 at *
  refine HIL.out.mono ?_
  rintro e w1 ⟨rfl, hb1⟩
  have HB1 : Hid (Below w.heap.size w w1) := hide (HB0.out.trans (hb1.mono HB0.out.size))
  have HX1 : Hid (w1.heap[w.heap.size]? = some (.cells #[.bool lf, .slice ka kn kc, .slice va vn vc, .slice ia inn ic] 25 (0, 0))) := hide ((hb1.block _ (heap_ltN HX.out)).trans HX.out)
  clear hb1 HIL q0 q1 q2 q3 hV0
  have q0 : w1.cell? ⟨w.heap.size, 0, none⟩ = some (.bool lf) := cell_blkN HX1.out rfl
  have q1 : w1.cell? ⟨w.heap.size, 1, none⟩ = some (.slice ka kn kc) := cell_blkN HX1.out rfl
  have q2 : w1.cell? ⟨w.heap.size, 2, none⟩ = some (.slice va vn vc) := cell_blkN HX1.out rfl
  have q3 : w1.cell? ⟨w.heap.size, 3, none⟩ = some (.slice ia inn ic) := cell_blkN HX1.out rfl
  cases lb with
  | true =>
    obtain ⟨hz, hle⟩ := HSZ.out (.inl rfl)
    have HZ := hide (hz w1 HB1.out)
    have HRR : Hid (R = (if 4096 < S then 7 else 0)) := hide (by rw [HR.out]; simp)
    clear hz HSZ
    go_wp2_with fail
    refine HZ.out.mono ?_
    rintro e w3 ⟨rfl, hb3⟩
    have HB3 : Hid (Below w.heap.size w w3) := hide (HB1.out.trans (hb3.mono HB1.out.size))
    clear hb3 HZ q0 q1 q2 q3
    by_cases h4 : 4096 < S
    · have g4 : (4096 : Int) < (S : Int) := by omega
      have HE : Hid (R = 7) := hide (by rw [HRR.out, if_pos h4])
      go_wp2
      go_ret
      exact ⟨by rw [HE.out]; rfl, HB3.out⟩
    · have g4 : ¬ (4096 : Int) < (S : Int) := by omega
      have HE : Hid (R = 0) := hide (by rw [HRR.out, if_neg h4])
      go_wp2
      go_ret
      exact ⟨by rw [HE.out]; rfl, HB3.out⟩
  | false =>
    have HI2 := hide (HII.out w1 HB1.out)
    go_wp2_with fail
    refine HI2.out.mono ?_
    rintro e w2 ⟨rfl, hb2⟩
    have HB2 : Hid (Below w.heap.size w w2) := hide (HB1.out.trans (hb2.mono HB1.out.size))
    have HX2 : Hid (w2.heap[w.heap.size]? = some (.cells #[.bool lf, .slice ka kn kc, .slice va vn vc, .slice ia inn ic] 25 (0, 0))) := hide ((hb2.block _ (heap_ltN HX1.out)).trans HX1.out)
    clear hb2 q0 q1 q2 q3
    cases ib with
    | false =>
      have HRR : Hid (R = 2) := hide (by rw [HR.out]; simp)
      go_wp2
      go_ret
      exact ⟨by rw [HRR.out]; rfl, HB2.out⟩
    | true =>
      obtain ⟨hz, hle⟩ := HSZ.out (.inr rfl)
      have HZ := hide (hz w2 HB2.out)
      have HRR : Hid (R = (if 4096 < S then 7 else 0)) := hide (by rw [HR.out]; simp)
      clear hz HSZ
      have q0 : w2.cell? ⟨w.heap.size, 0, none⟩ = some (.bool lf) := cell_blkN HX2.out rfl
      have q1 : w2.cell? ⟨w.heap.size, 1, none⟩ = some (.slice ka kn kc) := cell_blkN HX2.out rfl
      have q2 : w2.cell? ⟨w.heap.size, 2, none⟩ = some (.slice va vn vc) := cell_blkN HX2.out rfl
      have q3 : w2.cell? ⟨w.heap.size, 3, none⟩ = some (.slice ia inn ic) := cell_blkN HX2.out rfl
      go_wp2_with fail
      refine HZ.out.mono ?_
      rintro e w3 ⟨rfl, hb3⟩
      have HB3 : Hid (Below w.heap.size w w3) := hide (HB2.out.trans (hb3.mono HB2.out.size))
      clear hb3 HZ q0 q1 q2 q3
      by_cases h4 : 4096 < S
      · have g4 : (4096 : Int) < (S : Int) := by omega
        have HE : Hid (R = 7) := hide (by rw [HRR.out, if_pos h4])
        go_wp2
        go_ret
        exact ⟨by rw [HE.out]; rfl, HB3.out⟩
      · have g4 : ¬ (4096 : Int) < (S : Int) := by omega
        have HE : Hid (R = 0) := hide (by rw [HRR.out, if_neg h4])
        go_wp2
        go_ret
        exact ⟨by rw [HE.out]; rfl, HB3.out⟩
set_option maxHeartbeats 2000000 in
theorem size_any (v : Pv) (p : Pg) (w : World) (h : IsG w v p) (hc : FewP v) : Calls Try.prog 20 #[.agg (pgc p.leaf v)] w fun e w' => e = .returned (.int .i64 (sizeE p)) ∧ Below w.heap.size w w' := by
  have HB0 : Hid (Below w.heap.size w (w.alloc (.cells (pgc p.leaf v) 25))) := hide ((Below.refl _ w).alloc (Nat.le_refl _) _)
  have HX : Hid (BlkG (w.alloc (.cells (pgc p.leaf v) 25)) w.heap.size p.leaf v) := hide (heap_alloc_new _ _)
  have HG : Hid (∀ W : World, Below w.heap.size w W → IsG W v p) := hide (fun W hW => h.below hW)
  have HCN : Hid (p.keys.length ≤ 2000000 ∧ p.vals.length ≤ 2000000 ∧ p.kids.length ≤ 2000000) := hide ⟨by rw [h.keys.1]; exact hc.1, by rw [h.vals.1]; exact hc.2.1, by rw [h.kids.1]; exact hc.2.2⟩
  have HFW := hide hc
  have HIL := hide (isLeaf_any v p _ (HG.out _ HB0.out))
  have HR : Hid (sizeE p = (if leafB p = true ∨ innerB p = true then (sizeP p : Int) else 0)) := hide rfl
  obtain ⟨lb, hlb⟩ : ∃ lb, leafB p = lb := ⟨_, rfl⟩
  obtain ⟨ib, hib⟩ : ∃ ib, innerB p = ib := ⟨_, rfl⟩
  have HII : Hid (∀ W : World, Below w.heap.size w W → Calls Try.prog 43 #[.agg (pgc p.leaf v)] W fun e w' => e = .returned (.bool ib) ∧ Below W.heap.size W w') := hide (fun W hW => by rw [← hib]; exact isInner_any v p W (HG.out W hW))
  have HSZ : Hid ((lb = true ∨ ib = true) → (∀ W : World, Below w.heap.size w W → Calls Try.prog 44 #[.agg (pgc p.leaf v)] W fun e w' => e = .returned (.int .i64 (sizeP p : Nat)) ∧ Below W.heap.size W w') ∧ sizeP p ≤ 9000000000) := hide (fun hk => by
    rw [← hlb, ← hib] at hk
    obtain ⟨k1, k2, k3⟩ := kind_short hk
    exact ⟨fun W hW => sizeOf_any v p W (HG.out W hW) k1 k2 k3 HFW.out, sizeP_le hk HCN.out⟩)
  rw [hlb] at HIL
  rw [hlb, hib] at HR
  clear hlb hib h hc
  generalize sizeE p = R at *
  obtain ⟨lf, hlf⟩ : ∃ lf, p.leaf = lf := ⟨_, rfl⟩
  rw [hlf] at HB0 HX HIL HII HSZ
  rw [hlf]
  obtain ⟨S, hS⟩ : ∃ S, sizeP p = S := ⟨_, rfl⟩
  rw [hS] at HSZ HR
  clear hlf hS HG HCN HFW
  obtain ⟨ka, kn, kc, va, vn, vc, ia, inn, ic⟩ := v
  try dsimp only at HB0 HX HIL HII HSZ
  try dsimp only
  obtain ⟨q0, q1, q2, q3⟩ := HX.out.cells
  try dsimp only at q0 q1 q2 q3
  go_enter Try.func20, Try.ntmps20
  go_wp2_with fail
  generalize hV0 : (w.alloc (.cells #[.bool lf, .slice ka kn kc, .slice va vn vc, .slice ia inn ic] 25)) = V0 at *
  refine HIL.out.mono ?_
  rintro e w1 ⟨rfl, hb1⟩
  have HB1 : Hid (Below w.heap.size w w1) := hide (HB0.out.trans (hb1.mono HB0.out.size))
  have HX1 : Hid (w1.heap[w.heap.size]? = some (.cells #[.bool lf, .slice ka kn kc, .slice va vn vc, .slice ia inn ic] 25 (0, 0))) := hide ((hb1.block _ (heap_ltN HX.out)).trans HX.out)
  clear hb1 HIL q0 q1 q2 q3 hV0
  have q0 : w1.cell? ⟨w.heap.size, 0, none⟩ = some (.bool lf) := cell_blkN HX1.out rfl
  have q1 : w1.cell? ⟨w.heap.size, 1, none⟩ = some (.slice ka kn kc) := cell_blkN HX1.out rfl
  have q2 : w1.cell? ⟨w.heap.size, 2, none⟩ = some (.slice va vn vc) := cell_blkN HX1.out rfl
  have q3 : w1.cell? ⟨w.heap.size, 3, none⟩ = some (.slice ia inn ic) := cell_blkN HX1.out rfl
  cases lb with
  | true =>
    obtain ⟨hz, hle⟩ := HSZ.out (.inl rfl)
    have HZ := hide (hz w1 HB1.out)
    have HRR : Hid (R = (S : Int)) := hide (by rw [HR.out]; simp)
    clear hz HSZ
    go_wp2_with fail
    refine HZ.out.mono ?_
    rintro e w3 ⟨rfl, hb3⟩
    have HB3 : Hid (Below w.heap.size w w3) := hide (HB1.out.trans (hb3.mono HB1.out.size))
    clear hb3 HZ q0 q1 q2 q3
    go_wp2
    go_ret
    exact ⟨by rw [HRR.out]; rfl, HB3.out⟩
  | false =>
    have HI2 := hide (HII.out w1 HB1.out)
    go_wp2_with fail
    refine HI2.out.mono ?_
    rintro e w2 ⟨rfl, hb2⟩
    have HB2 : Hid (Below w.heap.size w w2) := hide (HB1.out.trans (hb2.mono HB1.out.size))
    have HX2 : Hid (w2.heap[w.heap.size]? = some (.cells #[.bool lf, .slice ka kn kc, .slice va vn vc, .slice ia inn ic] 25 (0, 0))) := hide ((hb2.block _ (heap_ltN HX1.out)).trans HX1.out)
    clear hb2 q0 q1 q2 q3
    cases ib with
    | false =>
      have HRR : Hid (R = 0) := hide (by rw [HR.out]; simp)
      go_wp2
      go_ret
      exact ⟨by rw [HRR.out]; rfl, HB2.out⟩
    | true =>
      obtain ⟨hz, hle⟩ := HSZ.out (.inr rfl)
      have HZ := hide (hz w2 HB2.out)
      have HRR : Hid (R = (S : Int)) := hide (by rw [HR.out]; simp)
      clear hz HSZ
      have q0 : w2.cell? ⟨w.heap.size, 0, none⟩ = some (.bool lf) := cell_blkN HX2.out rfl
      have q1 : w2.cell? ⟨w.heap.size, 1, none⟩ = some (.slice ka kn kc) := cell_blkN HX2.out rfl
      have q2 : w2.cell? ⟨w.heap.size, 2, none⟩ = some (.slice va vn vc) := cell_blkN HX2.out rfl
      have q3 : w2.cell? ⟨w.heap.size, 3, none⟩ = some (.slice ia inn ic) := cell_blkN HX2.out rfl
      go_wp2_with fail
      refine HZ.out.mono ?_
      rintro e w3 ⟨rfl, hb3⟩
      have HB3 : Hid (Below w.heap.size w w3) := hide (HB2.out.trans (hb3.mono HB2.out.size))
      clear hb3 HZ q0 q1 q2 q3
      go_wp2
      go_ret
      exact ⟨by rw [HRR.out]; rfl, HB3.out⟩
end Go.Proofs.Ytebikoekpbnpbaa

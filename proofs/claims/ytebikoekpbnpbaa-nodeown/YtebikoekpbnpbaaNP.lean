/- leafMiddle -/
import Derived.Test.YtebikoekpbnpbaaNO
namespace Go.Proofs.Ytebikoekpbnpbaa
open Go.RowKit Cod
set_option maxRecDepth 100000
set_option linter.unusedVariables false
set_option linter.unusedSimpArgs false
set_option maxHeartbeats 2000000 in
theorem search84 (x y : Nat) (n : Nat) (w : World) (hn : n ≤ 2000000) (hf : ∀ W : World, Below w.heap.size w W → ∀ i, i < n → Calls Try.prog 84 #[.int .i64 (i : Nat), .pointer (some ⟨x, 0, none⟩), .pointer (some ⟨y, 0, none⟩)] W fun e w' => ∃ r, e = .returned (.bool r) ∧ Below W.heap.size W w') :
    Calls Try.prog 79 #[.int .i64 (n : Nat), .func (.func 84) #[] #[.pointer (some ⟨x, 0, none⟩), .pointer (some ⟨y, 0, none⟩)]] w fun e w' => ∃ k : Nat, e = .returned (.int .i64 (k : Nat)) ∧ k ≤ n ∧ Below w.heap.size w w' := by
  have HF := hide hf
  clear hf
  go_enter Try.func79, Try.ntmps79
  go_wp2
  go_loopw [5, 6] (fun i j wr => ∃ lo hi : Nat, i = .int .i64 (lo : Nat) ∧ j = .int .i64 (hi : Nat) ∧ lo ≤ hi ∧ hi ≤ n ∧ Hid (Below w.heap.size w wr)) (fun i j _ => (intOf j).toNat - (intOf i).toNat)
  case atStart => exact ⟨0, n, rfl, rfl, by omega, by omega, hide (Below.refl _ _)⟩
  case round =>
    obtain ⟨i, j, rfl, rfl, hij, hj, HI⟩ := hrel
    by_cases hlt : i < j
    · obtain ⟨m, hmm⟩ : ∃ m, m = (i + j) / 2 := ⟨_, rfl⟩
      have hm' : ((i : Int) + (j : Int)) / 2 = (m : Int) := by omega
      have hmj : m < j := by omega
      have him : i ≤ m := by omega
      have hl1 : (i : Int) < (j : Int) := by omega
      have hw1 : IntKind.i64.wrap ((i : Int) + (j : Int)) = (i : Int) + (j : Int) := wrapN (by omega) (by omega)
      have hw2 : IntKind.u64.wrap ((i : Int) + (j : Int)) = (i : Int) + (j : Int) := by rw [IntKind.wrap_u64]; omega
      have hw3 : IntKind.i64.wrap (m : Int) = (m : Int) := wrapN (by omega) (by omega)
      have hw4 : IntKind.u64.wrap (m : Int) = (m : Int) := by rw [IntKind.wrap_u64]; omega
      have hw5 : IntKind.i64.wrap ((m : Int) + 1) = (m : Int) + 1 := wrapN (by omega) (by omega)
      have HC := hide (HF.out wr HI.out m (by omega))
      clear hmm
      go_wp2_with fail
      refine HC.out.mono ?_
      rintro e w2 ⟨pm, rfl, hb2⟩
      have HB2 : Hid (Below w.heap.size w w2) := hide (HI.out.trans (hb2.mono HI.out.size))
      clear hb2 HC
      cases pm with
      | true =>
        go_wp2
        go_roundw
        case rel => exact ⟨i, m, rfl, rfl, him, by omega, HB2⟩
        case measure => simp [intOf]; omega
      | false =>
        go_wp2
        go_roundw
        case rel => exact ⟨m + 1, j, by simp, rfl, by omega, hj, HB2⟩
        case measure => simp [intOf]; omega
    · obtain rfl : i = j := by omega
      have hkk : ¬ (i : Int) < (i : Int) := by omega
      go_wp2
      go_ret
      exact ⟨i, rfl, hj, HI.out⟩
theorem isL_front {w : World} {a : Option Addr} {n c : Nat} {L : List (List Nat)} (h : IsL w a n c L) {k : Nat} (hk : k ≤ n) : IsL w a k c (L.take k) := by
  obtain ⟨h1, h2, h3, h4, h5⟩ := h
  refine ⟨by rw [List.length_take]; omega, by omega, h3, h4, fun i hi => ?_⟩
  obtain ⟨b, off, a', n', c', e, hlt, hc, hB⟩ := h5 i (by omega)
  refine ⟨b, off, a', n', c', e, hlt, hc, ?_⟩
  rw [show (L.take k).getD i [] = L.getD i [] by simp [List.getD_eq_getElem?_getD, List.getElem?_take, hi]]
  exact hB
set_option maxHeartbeats 2000000 in
theorem close84 (x y i : Nat) (half : Int) (v : Pv) (p : Pg) (lf : Bool) (W : World) (hx : W.heap[x]? = some (.cells (pgc lf v) 25 (0, 0))) (hy : W.cell? ⟨y, 0, none⟩ = some (.int .i64 half)) (h : IsG W v p) (hi : i + 1 < v.kn) (hvk : v.vn = v.kn) (hn : v.kn ≤ 4096) (hs : (∀ b ∈ p.keys, b.length ≤ 1024) ∧ ∀ b ∈ p.vals, b.length ≤ 1024) :
    Calls Try.prog 84 #[.int .i64 (i : Nat), .pointer (some ⟨x, 0, none⟩), .pointer (some ⟨y, 0, none⟩)] W fun e w' => ∃ r, e = .returned (.bool r) ∧ Below W.heap.size W w' := by
  obtain ⟨ka, kn, kc, va, vn, vc, ia, inn, ic⟩ := v
  try dsimp only at hi hvk hn hx
  have hK := h.keys
  have hV := h.vals
  try dsimp only at hK hV
  have h2v : i + 1 ≤ vn := by omega
  have h2k : i + 1 ≤ kn := by omega
  obtain ⟨b1, o1, _, _, _, rfl, hb1, _, _⟩ := hK.2.2.2.2 0 (by omega)
  obtain ⟨b2, o2, _, _, _, rfl, hb2, _, _⟩ := hV.2.2.2.2 0 (by omega)
  clear hvk
  have hk2 := hK.2.1
  have hk3 : kc ≤ 9223372036854775807 := hK.2.2.1
  have hv2 := hV.2.1
  have hv3 : vc ≤ 9223372036854775807 := hV.2.2.1
  have HSZ := hide (sizeOf_any ⟨some ⟨b1, o1, none⟩, i + 1, kc, some ⟨b2, o2, none⟩, i + 1, vc, none, 0, 0⟩ ⟨true, p.keys.take (i + 1), p.vals.take (i + 1), []⟩ W.drew ⟨(isL_front hK h2k).below (Below.refl _ W).drew, (isL_front hV h2v).below (Below.refl _ W).drew, isK_nil _⟩ (fun b hb => hs.1 b (List.mem_of_mem_take hb)) (fun b hb => hs.2 b (List.mem_of_mem_take hb)) (by simp) ⟨by show i + 1 ≤ _; omega, by show i + 1 ≤ _; omega, Nat.zero_le _⟩)
  try dsimp only at HSZ
  have hw1 : IntKind.i64.wrap ((i : Int) + 1) = (i : Int) + 1 := wrapN (by omega) (by omega)
  have q0 : (0 : Int) ≤ (i : Int) + 1 := by omega
  have q1 : (i : Int) + 1 ≤ (kc : Int) := by omega
  have q2 : (i : Int) + 1 ≤ (vc : Int) := by omega
  have q5 : ((i : Int) + 1).toNat = i + 1 := by omega
  have q3 : i + 1 ≤ kc := by omega
  have q4 : i + 1 ≤ vc := by omega
  have z1 : W.cell? ⟨x, 1, none⟩ = some (.slice (some ⟨b1, o1, none⟩) kn kc) := cell_blkN hx rfl
  have z2 : W.cell? ⟨x, 2, none⟩ = some (.slice (some ⟨b2, o2, none⟩) vn vc) := cell_blkN hx rfl
  have HX := hide hx
  have HYY := hide hy
  clear hK hV h hs hx
  go_enter Try.func84, Try.ntmps84
  go_wp2_with fail
  have HS : Hid (∀ V : World, Below W.heap.size W V → V.cell? ⟨x, 1, none⟩ = some (.slice (some ⟨b1, o1, none⟩) kn kc) ∧ V.cell? ⟨x, 2, none⟩ = some (.slice (some ⟨b2, o2, none⟩) vn vc) ∧ V.cell? ⟨y, 0, none⟩ = some (.int .i64 half)) := hide (fun V hV => ⟨cell_blkN ((hV.block _ (heap_ltN HX.out)).trans HX.out) rfl, cell_blkN ((hV.block _ (heap_ltN HX.out)).trans HX.out) rfl, (World.cell?_of_block (hV.block _ (block_lt_of_cell HYY.out))).trans HYY.out⟩)
  go_region_held (fun V : World => V.cell? ⟨x, 1, none⟩ = some (.slice (some ⟨b1, o1, none⟩) kn kc) ∧ V.cell? ⟨x, 2, none⟩ = some (.slice (some ⟨b2, o2, none⟩) vn vc) ∧ V.cell? ⟨y, 0, none⟩ = some (.int .i64 half)) (first | with_reducible exact HS.out _ (Below.refl _ _).drew | with_reducible exact HS.out _ HQ1.out) (first | (go_at_call 44; refine HSZ.out.mono ?_; rintro e w2 ⟨rfl, hb2'⟩; have HQ1 : Hid (Below W.heap.size W w2) := hide ((Below.refl _ W).drew.trans hb2')))
  all_goals
    go_wp2
    go_ret
    exact ⟨_, rfl, HQ1.out⟩
set_option maxHeartbeats 2000000 in
theorem leafMiddle_any (v : Pv) (p : Pg) (w : World) (h : IsG w v p) (h0 : 2 ≤ v.kn) (hvk : v.vn = v.kn) (hn : v.kn ≤ 4096) (hi0 : v.inn = 0) (hs : (∀ b ∈ p.keys, b.length ≤ 1024) ∧ ∀ b ∈ p.vals, b.length ≤ 1024) :
    Calls Try.prog 57 #[.agg (pgc p.leaf v)] w fun e w' => ∃ k : Nat, e = .returned (.int .i64 ((1 + k : Nat) : Int)) ∧ k ≤ v.kn - 2 ∧ Below w.heap.size w w' := by
  have HB0 : Hid (Below w.heap.size w (w.alloc (.cells (pgc p.leaf v) 25))) := hide ((Below.refl _ w).alloc (Nat.le_refl _) _)
  have HX : Hid (BlkG (w.alloc (.cells (pgc p.leaf v) 25)) w.heap.size p.leaf v) := hide (heap_alloc_new _ _)
  have hkl : p.kids = [] := List.length_eq_zero_iff.1 (by rw [h.kids.1]; exact hi0)
  have HSZ := hide (sizeOf_any v p _ (h.below HB0.out) hs.1 hs.2 (by rw [hkl]; simp) ⟨by omega, by omega, by omega⟩)
  have HG := hide h
  have HS := hide hs
  have HVK := hide hvk
  obtain ⟨lf, hlf⟩ : ∃ lf, p.leaf = lf := ⟨_, rfl⟩
  rw [hlf] at HB0 HX HSZ
  rw [hlf]
  clear hlf h hs hvk hkl
  obtain ⟨ka, kn, kc, va, vn, vc, ia, inn, ic⟩ := v
  try dsimp only at HB0 HX HSZ h0 hn hi0 HVK
  try dsimp only
  clear hi0
  obtain ⟨q0, q1, q2, q3⟩ := HX.out.cells
  try dsimp only at q0 q1 q2 q3
  generalize sizeP p = sz at *
  obtain ⟨H, hH⟩ : ∃ H, wrap64 ((sz : Int) / 2) = H := ⟨_, rfl⟩
  go_enter Try.func57, Try.ntmps57
  go_wp2_with fail
  generalize hV0 : (w.alloc (.cells #[.bool lf, .slice ka kn kc, .slice va vn vc, .slice ia inn ic] 25)) = V0 at *
  refine HSZ.out.mono ?_
  rintro e w1 ⟨rfl, hb1⟩
  have HB1 : Hid (Below w.heap.size w w1) := hide (HB0.out.trans (hb1.mono HB0.out.size))
  have HX1 : Hid (w1.heap[w.heap.size]? = some (.cells #[.bool lf, .slice ka kn kc, .slice va vn vc, .slice ia inn ic] 25 (0, 0))) := hide ((hb1.block _ (heap_ltN HX.out)).trans HX.out)
  clear hb1 HSZ q0 q1 q2 q3 hV0
  have q1 : w1.cell? ⟨w.heap.size, 1, none⟩ = some (.slice ka kn kc) := cell_blkN HX1.out rfl
  have hw1 : IntKind.i64.wrap ((kn : Int) - 2) = ((kn - 2 : Nat) : Int) := by rw [wrapN (by omega) (by omega)]; omega
  have q1' : (w1.alloc (.cells #[.int .i64 H] 3)).cell? ⟨w.heap.size, 1, none⟩ = some (.slice ka kn kc) := (World.cell?_of_block (heap_alloc_old _ _ (heap_ltN HX1.out))).trans q1
  have HB2 : Hid (Below w1.heap.size w1 (w1.alloc (.cells #[.int .i64 H] 3))) := hide ((Below.refl _ w1).alloc (Nat.le_refl _) _)
  have HB2w : Hid (Below w.heap.size w (w1.alloc (.cells #[.int .i64 H] 3))) := hide (HB1.out.trans (HB2.out.mono HB1.out.size))
  have HY2 : Hid ((w1.alloc (.cells #[.int .i64 H] 3)).heap[w1.heap.size]? = some (.cells #[.int .i64 H] 3 (0, 0))) := hide (heap_alloc_new _ _)
  have HX2 : Hid ((w1.alloc (.cells #[.int .i64 H] 3)).heap[w.heap.size]? = some (.cells #[.bool lf, .slice ka kn kc, .slice va vn vc, .slice ia inn ic] 25 (0, 0))) := hide ((HB2.out.block _ (heap_ltN HX1.out)).trans HX1.out)
  have HSE := hide (search84 w.heap.size w1.heap.size (kn - 2) (w1.alloc (.cells #[.int .i64 H] 3)) (by omega) (fun W hW i hi => close84 w.heap.size w1.heap.size i H ⟨ka, kn, kc, va, vn, vc, ia, inn, ic⟩ p lf W ((hW.block _ (heap_ltN HX2.out)).trans HX2.out) (cell_blkN ((hW.block _ (heap_ltN HY2.out)).trans HY2.out) rfl) (HG.out.below (HB2w.out.trans (hW.mono HB2w.out.size))) (by show i + 1 < kn; omega) HVK.out hn HS.out))
  go_wp2_with fail
  refine HSE.out.mono ?_
  rintro e w2 ⟨k, rfl, hk, hb2⟩
  have HB3 : Hid (Below w.heap.size w w2) := hide (HB2w.out.trans (hb2.mono HB2w.out.size))
  have hw2 : IntKind.i64.wrap (1 + (k : Int)) = ((1 + k : Nat) : Int) := by rw [wrapN (by omega) (by omega)]; omega
  clear hb2 HSE q1 q1'
  go_wp2
  go_ret
  exact ⟨k, by simp, hk, HB3.out⟩
end Go.Proofs.Ytebikoekpbnpbaa

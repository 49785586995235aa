/- lives -/
import Derived.Test.YtoaekgacfnmmmaaY
namespace Go.Proofs.Ytoaekgacfnmmmaa
open Go.RowKit
theorem OpP.done {A' : List Py} {G' : List Pg} {w : World} {e : Ending} {w' : World} (h : OpP 0 A' G' w e w') : Below w.heap.size w w' ∧ ∃ a n c b m d, e = .returned (.tuple #[vb a n c b m d, .int .i64 0]) ∧ IsP w' a n c (A'.filter keepB) ∧ IsG w' b m d G' ∧ BksA A' (A'.filter keepB) G' ∧ NewA w.heap.size a ∧ NewA w.heap.size b := by
  obtain ⟨h1, ⟨h2, _⟩ | ⟨_, a, c, b, d, h3, h4, h5, h6⟩⟩ := h
  · exact absurd rfl h2
  · exact ⟨h1, a, _, c, b, _, d, h3, h4, h5, h6⟩
theorem OpP.no {r : Int} {A' : List Py} {G' : List Pg} {w : World} {e : Ending} {w' : World} (h : OpP r A' G' w e w') (hr : r ≠ 0) : Below w.heap.size w w' ∧ e = .returned (.tuple #[vb none 0 0 none 0 0, .int .i64 r]) := by
  obtain ⟨h1, ⟨_, h2⟩ | ⟨h2, _⟩⟩ := h
  · exact ⟨h1, h2⟩
  · exact absurd h2 hr
theorem SetP.done {v : Int} {A' : List Py} {G' : List Pg} {w : World} {e : Ending} {w' : World} (h : SetP 0 v A' G' w e w') : Below w.heap.size w w' ∧ ∃ a n c b m d, e = .returned (.tuple #[vb a n c b m d, .int .i64 v, .int .i64 0]) ∧ IsP w' a n c (A'.filter keepB) ∧ IsG w' b m d G' ∧ BksA A' (A'.filter keepB) G' ∧ NewA w.heap.size a ∧ NewA w.heap.size b := by
  obtain ⟨h1, ⟨h2, _⟩ | ⟨_, a, c, b, d, h3, h4, h5, h6⟩⟩ := h
  · exact absurd rfl h2
  · exact ⟨h1, a, _, c, b, _, d, h3, h4, h5, h6⟩
theorem SetP.no {r v : Int} {A' : List Py} {G' : List Pg} {w : World} {e : Ending} {w' : World} (h : SetP r v A' G' w e w') (hr : r ≠ 0) : Below w.heap.size w w' ∧ e = .returned (.tuple #[vb none 0 0 none 0 0, .int .i64 0, .int .i64 r]) := by
  obtain ⟨h1, ⟨_, h2⟩ | ⟨h2, _⟩⟩ := h
  · exact ⟨h1, h2⟩
  · exact absurd h2 hr
theorem pv_set {A : List Py} (hA : IdxR A) {n m : Int} (hn : ordB n = true) (hm : ordB m = true) (y : Py) : pvA (A.set n.toNat y) m = if m = n then (if noneB y = true then ⟨n, 0, 0, 0⟩ else y) else pvA A m := by
  unfold pvA
  rw [atA_set hA hn hm]
  split
  case isTrue e => rw [e]
  case isFalse => rfl
theorem payV_set {A : List Py} (hA : IdxR A) {n m : Int} (hn : ordB n = true) (hm : ordB m = true) (y : Py) : payV (A.set n.toNat y) m = if m = n then (if noneB y = true then Py0 else y) else payV A m := by
  unfold payV
  rw [atA_set hA hn hm]
  split <;> rfl
/-- the row of one pay alone, of order 1 -/
def A1of (y : Py) : List Py := (List.replicate 1025 Py0).set (1 : Int).toNat y
theorem a1_set (y z : Py) : (A1of y).set (1 : Int).toNat z = A1of z := by unfold A1of; rw [List.set_set]
theorem a1_pv (y : Py) (h : noneB y = false) : pvA (A1of y) 1 = y := by
  unfold A1of
  rw [pv_set idx_zero (by decide) (by decide), if_pos rfl, if_neg (by rw [h]; decide)]
theorem a1_payV (y : Py) (h : noneB y = false) : payV (A1of y) 1 = y := by
  unfold A1of
  rw [payV_set idx_zero (by decide) (by decide), if_pos rfl, if_neg (by rw [h]; decide)]
theorem a0_pv : pvA (List.replicate 1025 Py0) 1 = ⟨1, 0, 0, 0⟩ := by
  unfold pvA atA
  rw [List.getD_eq_getElem?_getD, List.getElem?_replicate, if_pos (by decide)]
theorem a1_filter (y : Py) (h : noneB y = false) : (A1of y).filter keepB = [y] := by
  obtain ⟨F1, F2, e, _, _, hs⟩ := split_row idx_zero (t := (1 : Int).toNat) (by decide)
  have e0 : (List.replicate 1025 Py0).filter keepB = [] := by rw [List.filter_replicate]; rfl
  rw [e0] at e
  have h1 := List.append_eq_nil_iff.1 e.symm
  have h2 := List.append_eq_nil_iff.1 h1.1
  unfold A1of
  rw [hs, h2.1, h1.2]
  unfold oneL
  rw [h]
  rfl
theorem live1 : authE (List.replicate 1025 Py0) [] 1 500 = 0 ∧ (List.replicate 1025 Py0).set (1 : Int).toNat (behR (pvA (List.replicate 1025 Py0) 1) ⟨1, 1, 2, 500⟩) = A1of ⟨1, 500, 0, 0⟩ := by
  unfold authE
  rw [a0_pv]
  exact ⟨by decide, rfl⟩
theorem live2 (G : List Pg) (hG : G.length < 16384) : setE (A1of ⟨1, 500, 0, 0⟩) G 1 3 = 0 ∧ (pvA (A1of ⟨1, 500, 0, 0⟩) 1).op = 500 ∧ (A1of ⟨1, 500, 0, 0⟩).set (1 : Int).toNat (behR (pvA (A1of ⟨1, 500, 0, 0⟩) 1) ⟨1, 2, 3, (pvA (A1of ⟨1, 500, 0, 0⟩) 1).op⟩) = A1of ⟨1, 0, 500, 0⟩ := by
  unfold setE
  rw [a1_pv _ (by decide), a1_set, if_neg (by decide), if_neg (by decide), if_neg (by omega), if_neg (by decide)]
  exact ⟨rfl, rfl, rfl⟩
theorem live3 (G : List Pg) (hG : G.length < 16384) : refE (A1of ⟨1, 0, 500, 0⟩) G 1 200 = 0 ∧ (A1of ⟨1, 0, 500, 0⟩).set (1 : Int).toNat (behR (pvA (A1of ⟨1, 0, 500, 0⟩) 1) ⟨1, 3, 1, 200⟩) = A1of ⟨1, 0, 500, 200⟩ := by
  unfold refE
  rw [a1_pv _ (by decide), a1_set, if_neg (by decide), if_neg (by decide), if_neg (by decide), if_neg (by omega), if_neg (by decide)]
  exact ⟨rfl, rfl⟩
theorem live4 (G : List Pg) : refE (A1of ⟨1, 0, 500, 200⟩) G 1 400 = 13 := by
  unfold refE
  rw [a1_pv _ (by decide), if_neg (by decide), if_neg (by decide), if_pos (by decide)]
theorem live5 : num (balS ((A1of ⟨1, 0, 500, 200⟩).filter keepB) 1) = -300 ∧ err (balS ((A1of ⟨1, 0, 500, 200⟩).filter keepB) 1) = 0 := by
  rw [a1_filter _ (by decide)]
  exact ⟨by decide, by decide⟩
set_option maxHeartbeats 4000000 in
theorem lives_any (w : World) : Calls Try.prog 7 #[] w fun e w' => Below w.heap.size w w' ∧ e = .returned (.bool true) := by
  have H1 := hide (auth_any none 0 0 (List.replicate 1025 Py0) [] none 0 0 [] 1 500 w (isP_nil w) (isG_nil w) bks_none)
  rw [live1.1, live1.2, List.nil_append] at H1
  have HB0 := hide (Below.refl w.heap.size w)
  go_enter Try.func7, Try.ntmps7
  refine wp_seq_k (fun K0 hK0 => ?_)
  have HK0 := hide hK0
  clear hK0
  go_wp2
  refine HK0.out _ _ ?_
  clear HK0
  refine wp_seq_k (fun K1 hK1 => ?_)
  have HK1 := hide hK1
  clear hK1
  go_wp2_with fail
  refine H1.out.mono ?_
  intro e w1 hop
  obtain ⟨hb1, a1, n1, c1, b1, m1, d1, rfl, i1, i2, i3, i4, i5⟩ := hop.done
  clear hop H1
  have hs1 := hb1.size
  have HI1 := hide i1
  have HI2 := hide i2
  have HBK := hide i3
  clear i1 i2 i3 i4 i5
  have HB1 : Hid (Below w.heap.size w w1) := hide hb1
  clear hb1
  go_wp2
  generalize hW : w1.alloc (.cells #[.slice a1 n1 c1, .slice b1 m1 d1] 25) = W1
  have HX1 : Hid (BlkB W1 w1.heap.size (.slice a1 n1 c1) (.slice b1 m1 d1)) := hide (hW ▸ heap_alloc_new _ _)
  have hbw : Below w1.heap.size w1 W1 := hW ▸ (Below.refl _ _).alloc (Nat.le_refl _) _
  have HBW : Hid (Below w.heap.size w W1) := hide (HB1.out.trans (hbw.mono HB1.out.size))
  have HI3 := hide (HI1.out.below' hbw)
  have HI4 := hide (HI2.out.below' hbw)
  have hB : w.heap.size ≤ w1.heap.size := hs1
  generalize w1.heap.size = B at *
  clear hW hbw HI1 HI2 HB1 hs1
  refine HK1.out _ _ ?_
  clear HK1
  refine wp_seq_k (fun K2 hK2 => ?_)
  have HK2 := hide hK2
  clear hK2
  obtain ⟨x1, x2⟩ := HX1.out.cells
  have H2 := hide (capture_any a1 n1 c1 _ _ b1 m1 d1 _ 1 W1 HI3.out HI4.out HBK.out)
  obtain ⟨l1, l2, l3⟩ := live2 [⟨1, 1, 2, 500⟩] (by decide)
  rw [l3, l2, l1] at H2
  clear l1 l2 l3
  go_wp2_with fail
  refine H2.out.mono ?_
  intro e w2 hop
  obtain ⟨hb2, a2, n2, c2, b2, m2, d2, rfl, i1, i2, i3, i4, i5⟩ := hop.done
  clear hop H2 HI3 HI4 HBK x1 x2
  have HX2 := hide (HX1.out.below (heap_lt HX1.out) hb2)
  have HB2 : Hid (Below w.heap.size w w2) := hide (HBW.out.trans (hb2.mono HBW.out.size))
  have hBl : B < W1.heap.size := heap_lt HX1.out
  have HI1 := hide i1
  have HI2 := hide i2
  have HBK := hide i3
  have HN1 := hide i4
  have HN2 := hide i5
  clear hb2 i1 i2 i3 i4 i5 HX1 HBW
  obtain ⟨x1, x2⟩ := HX2.out.cells
  have xf := HX2.out.froz
  go_wp2
  generalize hW : (w2.setCell ⟨B, 0, none⟩ (.slice a2 n2 c2)).setCell ⟨B, 1, none⟩ (.slice b2 m2 d2) = W2
  have HX3 : Hid (BlkB W2 B (.slice a2 n2 c2) (.slice b2 m2 d2)) := hide (hW ▸ put2b_blk HX2.out _ _)
  have HBW : Hid (Below w.heap.size w W2) := hide (hW ▸ put2b_below HB2.out hB _ _)
  have HI3 : Hid (IsP W2 a2 n2 c2 _) := hide (hW ▸ (HI1.out.off HN1.out hBl _).off HN1.out hBl _)
  have HI4 : Hid (IsG W2 b2 m2 d2 _) := hide (hW ▸ (HI2.out.off HN2.out hBl _).off HN2.out hBl _)
  clear hW hBl HI1 HI2 HB2 HX2 HN1 HN2 x1 x2 xf
  refine HK2.out _ _ ?_
  clear HK2
  refine wp_seq_k (fun K3 hK3 => ?_)
  have HK3 := hide hK3
  clear hK3
  obtain ⟨x1, x2⟩ := HX3.out.cells
  have H3 := hide (refund_any a2 n2 c2 _ _ b2 m2 d2 _ 1 200 W2 HI3.out HI4.out HBK.out)
  obtain ⟨l1, l2⟩ := live3 ([⟨1, 1, 2, 500⟩] ++ [⟨1, 2, 3, 500⟩]) (by decide)
  rw [l2, l1] at H3
  clear l1 l2
  go_wp2_with fail
  refine H3.out.mono ?_
  intro e w3 hop
  obtain ⟨hb2, a3, n3, c3, b3, m3, d3, rfl, i1, i2, i3, i4, i5⟩ := hop.done
  clear hop H3 HI3 HI4 HBK x1 x2
  have HX2 := hide (HX3.out.below (heap_lt HX3.out) hb2)
  have HB2 : Hid (Below w.heap.size w w3) := hide (HBW.out.trans (hb2.mono HBW.out.size))
  have hBl : B < W2.heap.size := heap_lt HX3.out
  have HI1 := hide i1
  have HI2 := hide i2
  have HBK := hide i3
  have HN1 := hide i4
  have HN2 := hide i5
  clear hb2 i1 i2 i3 i4 i5 HX3 HBW
  obtain ⟨x1, x2⟩ := HX2.out.cells
  have xf := HX2.out.froz
  go_wp2
  generalize hW : (w3.setCell ⟨B, 0, none⟩ (.slice a3 n3 c3)).setCell ⟨B, 1, none⟩ (.slice b3 m3 d3) = W3
  have HX3 : Hid (BlkB W3 B (.slice a3 n3 c3) (.slice b3 m3 d3)) := hide (hW ▸ put2b_blk HX2.out _ _)
  have HBW : Hid (Below w.heap.size w W3) := hide (hW ▸ put2b_below HB2.out hB _ _)
  have HI3 : Hid (IsP W3 a3 n3 c3 _) := hide (hW ▸ (HI1.out.off HN1.out hBl _).off HN1.out hBl _)
  have HI4 : Hid (IsG W3 b3 m3 d3 _) := hide (hW ▸ (HI2.out.off HN2.out hBl _).off HN2.out hBl _)
  obtain rfl : 3 = m3 := HI4.out.1
  clear hW hBl HI1 HI2 HB2 HX2 HN1 HN2 x1 x2 xf
  refine HK3.out _ _ ?_
  clear HK3
  refine wp_seq_k (fun K4 hK4 => ?_)
  have HK4 := hide hK4
  clear hK4
  obtain ⟨x1, x2⟩ := HX3.out.cells
  have H4 := hide (refund_any a3 n3 c3 _ _ b3 3 d3 _ 1 400 W3 HI3.out HI4.out HBK.out)
  rw [live4] at H4
  go_wp2_with fail
  refine H4.out.mono ?_
  intro e w4 hop
  obtain ⟨hb2, rfl⟩ := hop.no (by decide)
  clear hop H4 x1 x2
  have HX4 := hide (HX3.out.below (heap_lt HX3.out) hb2)
  have HB4 : Hid (Below w.heap.size w w4) := hide (HBW.out.trans (hb2.mono HBW.out.size))
  have HI5 := hide (HI3.out.below' hb2)
  have HI6 := hide (HI4.out.below' hb2)
  clear hb2 HX3 HBW HI3 HI4
  go_wp2
  generalize hW : w4.alloc (.cells #[.slice none 0 0, .slice none 0 0] 25) = W4
  have hbw : Below w4.heap.size w4 W4 := hW ▸ (Below.refl _ _).alloc (Nat.le_refl _) _
  have HX5 := hide (HX4.out.below (heap_lt HX4.out) hbw)
  have HB5 : Hid (Below w.heap.size w W4) := hide (HB4.out.trans (hbw.mono HB4.out.size))
  have HI7 := hide (HI5.out.below' hbw)
  have HI8 := hide (HI6.out.below' hbw)
  clear hW hbw HX4 HB4 HI5 HI6
  refine HK4.out _ _ ?_
  clear HK4
  refine wp_seq_k (fun K5 hK5 => ?_)
  have HK5 := hide hK5
  clear hK5
  obtain ⟨x1, x2⟩ := HX5.out.cells
  have H5 := hide (balance1_any a3 n3 c3 _ b3 3 d3 _ W4 HI7.out HI8.out HBK.out.check)
  rw [live5.1, live5.2] at H5
  go_wp2_with fail
  refine H5.out.mono ?_
  rintro e w5 ⟨hb2, rfl⟩
  clear H5 x1 x2
  have HX6 := hide (HX5.out.below (heap_lt HX5.out) hb2)
  have HB6 : Hid (Below w.heap.size w w5) := hide (HB5.out.trans (hb2.mono HB5.out.size))
  have HI9 := hide (HI7.out.below' hb2)
  have HIa := hide (HI8.out.below' hb2)
  clear hb2 HX5 HB5 HI7 HI8
  go_wp2
  refine HK5.out _ _ ?_
  clear HK5
  refine wp_seq_k (fun K6 hK6 => ?_)
  have HK6 := hide hK6
  clear hK6
  obtain ⟨x1, x2⟩ := HX6.out.cells
  have H6 := hide (pay_any a3 n3 c3 _ _ b3 3 d3 _ 1 w5 HI9.out HIa.out HBK.out)
  rw [a1_payV _ (by decide)] at H6
  go_wp2_with fail
  refine H6.out.mono ?_
  rintro e w6 ⟨hb2, ⟨hn, _⟩ | ⟨_, rfl⟩⟩
  · exact absurd hn (by decide)
  clear H6 x1 x2
  have HX7 := hide (HX6.out.below (heap_lt HX6.out) hb2)
  have HB7 : Hid (Below w.heap.size w w6) := hide (HB6.out.trans (hb2.mono HB6.out.size))
  clear hb2 HX6 HB6 HI9 HIa
  go_wp2
  generalize hW : w6.alloc (.cells #[.int .i64 1, .int .i64 0, .int .i64 500, .int .i64 200] 30) = W6
  have HX8 : Hid (BlkB W6 B (.slice a3 n3 c3) (.slice b3 3 d3)) := hide (hW ▸ (Below.heap_alloc _ _ _ (heap_lt HX7.out)).trans HX7.out)
  have HY8 : Hid (BlkP W6 w6.heap.size ⟨1, 0, 500, 200⟩) := hide (hW ▸ heap_alloc_new _ _)
  have HB8 : Hid (Below w.heap.size w W6) := hide (hW ▸ HB7.out.alloc HB7.out.size _)
  generalize w6.heap.size = gY at *
  clear hW HX7 HB7
  obtain ⟨x1, x2⟩ := HX8.out.cells
  obtain ⟨y1, y2, y3, y4⟩ := HY8.out.cells
  simp only [Nat.zero_add] at y1 y2 y3 y4
  have q0 := equal30 1 0 500 200 1 0 500 200
  have q1 := eqg30
  refine HK6.out _ _ ?_
  clear HK6
  go_wp2
  go_ret
  exact ⟨HB8.out, rfl⟩
end Go.Proofs.Ytoaekgacfnmmmaa

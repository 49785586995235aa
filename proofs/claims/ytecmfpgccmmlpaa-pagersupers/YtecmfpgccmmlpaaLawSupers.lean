/- PagerSupers, walked -/
import Derived.Test.YtecmfpgccmmlpaaSc
import Derived.Test.YtecmfpgccmmlpaaPr
import Derived.Test.YtecmfpgccmmlpaaOw
namespace Go.Proofs.Ytecmfpgccmmlpaa
open Go.RowKit
set_option maxRecDepth 100000
set_option linter.unusedVariables false
set_option linter.unusedSimpArgs false
theorem below_of {w0 w : World} (h : Below w0.heap.size w0 w) {w' : World} (h2 : Below w.heap.size w w') : Below w0.heap.size w0 w' := h.trans (h2.mono h.size)
set_option maxHeartbeats 4000000 in
theorem supersWalk (s : Sup) (a : Option Addr) (len cap : Nat) (l : List Nat) (W : World) (hs : s.gen < 18446744073709551616 ∧ s.seq < 18446744073709551616 ∧ i64B s.root ∧ i64B s.jn ∧ i64B s.live) (h : IsB W a len cap l) (hr : cap ≤ 140737488351232) :
    Calls Try.prog 3 #[supV s, .slice a len cap] W fun e w' => e = .returned (.bool true) ∧ Below W.heap.size W w' := by
  clear hs hr
  have HB : Hid (Below W.heap.size W (box5 W s)) := hide ((Below.refl _ W).alloc (Nat.le_refl _) _)
  have HX : Hid ((box5 W s).heap[W.heap.size]? = some (.cells #[.int .u64 (s.gen : Nat), .int .i64 s.root, .int .u64 (s.seq : Nat), .int .i64 s.jn, .int .i64 s.live] 24 (0, 0))) := hide (heap_alloc_new W _)
  have H := hide h
  have R1 : Hid (∀ w : World, IsB w a len cap l → Calls Try.prog 11 #[.slice a len cap] w fun e w' => e = .returned (.tuple #[supV (rdS l), .int .i64 (rdE l)]) ∧ Below w.heap.size w w') := hide (fun w h => read_any' w a len cap l h)
  have R2 : Hid (∀ w : World, IsB w a len cap l → Calls Try.prog 12 #[.slice a len cap] w fun e w' => e = .returned (.tuple #[supV (rdS l), .int .i64 (rdE l)]) ∧ Below w.heap.size w w') := hide (fun w h => rread_any w a len cap l h)
  clear h
  generalize rdS l = s2 at *
  generalize rdE l = er at *
  obtain ⟨g2, r2, q2, j2, v2⟩ := s2
  cases hm : s.may
  · skip
    have N1 := hide (bytes_no s hm (box5 W s))
    have N2 := hide (rbytes_no s hm)
    clear hm
    unfold box5 supV supC at *
    obtain ⟨gen, root, seq, jn, live⟩ := s
    dsimp only at HB HX N1 N2 R1 R2 ⊢
    go_enter Try.func3, Try.ntmps3
    go_wp2_with fail
    refine N1.out.mono ?_
    rintro e w1 ⟨rfl, hb1⟩
    have HB1 := hide (below_of HB.out hb1)
    have HX1 := hide ((hb1.block _ (heap_lt HX.out)).trans HX.out)
    clear hb1 HB HX N1
    have y0 := cell_bk (j := 0) HX1.out rfl
    have y1 := cell_bk (j := 1) HX1.out rfl
    have y2 := cell_bk (j := 2) HX1.out rfl
    have y3 := cell_bk (j := 3) HX1.out rfl
    have y4 := cell_bk (j := 4) HX1.out rfl
    simp only [List.getElem_toArray, List.getElem_cons_zero, List.getElem_cons_succ] at y0 y1 y2 y3 y4
    go_wp2_with fail
    refine (N2.out w1).mono ?_
    rintro e w2 ⟨rfl, hb2⟩
    have HB2 := hide (below_of HB1.out hb2)
    clear hb2 HB1 HX1 N2 y0 y1 y2 y3 y4
    go_wp2_with fail
    refine (R1.out w2 (H.out.below HB2.out)).mono ?_
    rintro e w3 ⟨rfl, hb3⟩
    have HB3 := hide (below_of HB2.out hb3)
    clear hb3 HB2 R1
    have hb4 : Below w3.heap.size w3 (w3.alloc (.cells #[.int .u64 (g2 : Nat), .int .i64 r2, .int .u64 (q2 : Nat), .int .i64 j2, .int .i64 v2] 24)) := (Below.refl _ w3).alloc (Nat.le_refl _) _
    have HX4 : Hid ((w3.alloc (.cells #[.int .u64 (g2 : Nat), .int .i64 r2, .int .u64 (q2 : Nat), .int .i64 j2, .int .i64 v2] 24)).heap[w3.heap.size]? = some (.cells #[.int .u64 (g2 : Nat), .int .i64 r2, .int .u64 (q2 : Nat), .int .i64 j2, .int .i64 v2] 24 (0, 0))) := hide (heap_alloc_new w3 _)
    have HB4 := hide (below_of HB3.out hb4)
    clear hb4
    have R2' := hide (R2.out _ (H.out.below HB4.out))
    go_wp2_with fail
    generalize w3.alloc (.cells #[.int .u64 (g2 : Nat), .int .i64 r2, .int .u64 (q2 : Nat), .int .i64 j2, .int .i64 v2] 24) = w4 at *
    refine R2'.out.mono ?_
    rintro e w5 ⟨rfl, hb5⟩
    have HX5 := hide ((hb5.block _ (heap_lt HX4.out)).trans HX4.out)
    have HB5 := hide (below_of HB4.out hb5)
    clear hb5 HB4 HX4 R2 R2' HB3
    have hb6 : Below w5.heap.size w5 (w5.alloc (.cells #[.int .u64 (g2 : Nat), .int .i64 r2, .int .u64 (q2 : Nat), .int .i64 j2, .int .i64 v2] 24)) := (Below.refl _ w5).alloc (Nat.le_refl _) _
    have HY6 : Hid ((w5.alloc (.cells #[.int .u64 (g2 : Nat), .int .i64 r2, .int .u64 (q2 : Nat), .int .i64 j2, .int .i64 v2] 24)).heap[w5.heap.size]? = some (.cells #[.int .u64 (g2 : Nat), .int .i64 r2, .int .u64 (q2 : Nat), .int .i64 j2, .int .i64 v2] 24 (0, 0))) := hide (heap_alloc_new w5 _)
    have HX6 := hide ((hb6.block _ (heap_lt HX5.out)).trans HX5.out)
    have HB6 := hide (below_of HB5.out hb6)
    clear hb6 HB5 HX5
    go_wp2_with fail
    generalize w5.alloc (.cells #[.int .u64 (g2 : Nat), .int .i64 r2, .int .u64 (q2 : Nat), .int .i64 j2, .int .i64 v2] 24) = w6 at *
    refine (lives_any _).mono ?_
    rintro e w7 ⟨rfl, hb7⟩
    have c1 := conv_str (isB_nil w7)
    have HX7 := hide ((hb7.block _ (heap_lt HX6.out)).trans HX6.out)
    have HY7 := hide ((hb7.block _ (heap_lt HY6.out)).trans HY6.out)
    have HB7 := hide (below_of HB6.out hb7)
    clear hb7 HB6 HX6 HY6
    have x0 := cell_bk (j := 0) HX7.out rfl
    have x1 := cell_bk (j := 1) HX7.out rfl
    have x2 := cell_bk (j := 2) HX7.out rfl
    have x3 := cell_bk (j := 3) HX7.out rfl
    have x4 := cell_bk (j := 4) HX7.out rfl
    have y0 := cell_bk (j := 0) HY7.out rfl
    have y1 := cell_bk (j := 1) HY7.out rfl
    have y2 := cell_bk (j := 2) HY7.out rfl
    have y3 := cell_bk (j := 3) HY7.out rfl
    have y4 := cell_bk (j := 4) HY7.out rfl
    simp only [List.getElem_toArray, List.getElem_cons_zero, List.getElem_cons_succ] at x0 x1 x2 x3 x4 y0 y1 y2 y3 y4
    clear HX7 HY7
    go_wp2
    go_ret
    exact ⟨rfl, HB7.out⟩
  · skip
    have N1 := hide (bytes_ok s hm (box5 W s))
    have N2 := hide (rbytes_is s hm)
    have HLT := hide (supL_lt s)
    generalize supL s = SL at *
    clear hm
    unfold box5 supV supC at *
    obtain ⟨gen, root, seq, jn, live⟩ := s
    dsimp only at HB HX N1 N2 R1 R2 ⊢
    go_enter Try.func3, Try.ntmps3
    go_wp2_with fail
    refine N1.out.mono ?_
    rintro e w1 ⟨q, rfl, _, hrow, hb1⟩
    have I1 := hide (hrow.isB HLT.out)
    clear hrow
    have HB1 := hide (below_of HB.out hb1)
    have HX1 := hide ((hb1.block _ (heap_lt HX.out)).trans HX.out)
    clear hb1 HB HX N1
    have y0 := cell_bk (j := 0) HX1.out rfl
    have y1 := cell_bk (j := 1) HX1.out rfl
    have y2 := cell_bk (j := 2) HX1.out rfl
    have y3 := cell_bk (j := 3) HX1.out rfl
    have y4 := cell_bk (j := 4) HX1.out rfl
    simp only [List.getElem_toArray, List.getElem_cons_zero, List.getElem_cons_succ] at y0 y1 y2 y3 y4
    go_wp2_with fail
    refine (N2.out w1).mono ?_
    rintro e w2 ⟨q', c', rfl, hI2, hb2⟩
    have I2 := hide hI2
    have I1' := hide (I1.out.below hb2)
    clear hI2 I1
    have HB2 := hide (below_of HB1.out hb2)
    clear hb2 HB1 HX1 N2 y0 y1 y2 y3 y4
    go_wp2_with fail
    refine (R1.out w2 (H.out.below HB2.out)).mono ?_
    rintro e w3 ⟨rfl, hb3⟩
    have I1 := hide (I1'.out.below hb3)
    have I2' := hide (I2.out.below hb3)
    clear I1' I2
    have HB3 := hide (below_of HB2.out hb3)
    clear hb3 HB2 R1
    have hb4 : Below w3.heap.size w3 (w3.alloc (.cells #[.int .u64 (g2 : Nat), .int .i64 r2, .int .u64 (q2 : Nat), .int .i64 j2, .int .i64 v2] 24)) := (Below.refl _ w3).alloc (Nat.le_refl _) _
    have HX4 : Hid ((w3.alloc (.cells #[.int .u64 (g2 : Nat), .int .i64 r2, .int .u64 (q2 : Nat), .int .i64 j2, .int .i64 v2] 24)).heap[w3.heap.size]? = some (.cells #[.int .u64 (g2 : Nat), .int .i64 r2, .int .u64 (q2 : Nat), .int .i64 j2, .int .i64 v2] 24 (0, 0))) := hide (heap_alloc_new w3 _)
    have HB4 := hide (below_of HB3.out hb4)
    have I1' := hide (I1.out.below hb4)
    have I2 := hide (I2'.out.below hb4)
    clear I1 I2'
    clear hb4
    have R2' := hide (R2.out _ (H.out.below HB4.out))
    go_wp2_with fail
    generalize w3.alloc (.cells #[.int .u64 (g2 : Nat), .int .i64 r2, .int .u64 (q2 : Nat), .int .i64 j2, .int .i64 v2] 24) = w4 at *
    refine R2'.out.mono ?_
    rintro e w5 ⟨rfl, hb5⟩
    have I1 := hide (I1'.out.below hb5)
    have I2' := hide (I2.out.below hb5)
    clear I1' I2
    have HX5 := hide ((hb5.block _ (heap_lt HX4.out)).trans HX4.out)
    have HB5 := hide (below_of HB4.out hb5)
    clear hb5 HB4 HX4 R2 R2' HB3
    have hb6 : Below w5.heap.size w5 (w5.alloc (.cells #[.int .u64 (g2 : Nat), .int .i64 r2, .int .u64 (q2 : Nat), .int .i64 j2, .int .i64 v2] 24)) := (Below.refl _ w5).alloc (Nat.le_refl _) _
    have HY6 : Hid ((w5.alloc (.cells #[.int .u64 (g2 : Nat), .int .i64 r2, .int .u64 (q2 : Nat), .int .i64 j2, .int .i64 v2] 24)).heap[w5.heap.size]? = some (.cells #[.int .u64 (g2 : Nat), .int .i64 r2, .int .u64 (q2 : Nat), .int .i64 j2, .int .i64 v2] 24 (0, 0))) := hide (heap_alloc_new w5 _)
    have HX6 := hide ((hb6.block _ (heap_lt HX5.out)).trans HX5.out)
    have HB6 := hide (below_of HB5.out hb6)
    have I1' := hide (I1.out.below hb6)
    have I2 := hide (I2'.out.below hb6)
    clear I1 I2'
    clear hb6 HB5 HX5
    go_wp2_with fail
    generalize w5.alloc (.cells #[.int .u64 (g2 : Nat), .int .i64 r2, .int .u64 (q2 : Nat), .int .i64 j2, .int .i64 v2] 24) = w6 at *
    refine (lives_any _).mono ?_
    rintro e w7 ⟨rfl, hb7⟩
    have c1 := conv_str (I1'.out.below hb7)
    have c2 := conv_str (I2.out.below hb7)
    clear I1' I2
    generalize str SL = t at *
    have HX7 := hide ((hb7.block _ (heap_lt HX6.out)).trans HX6.out)
    have HY7 := hide ((hb7.block _ (heap_lt HY6.out)).trans HY6.out)
    have HB7 := hide (below_of HB6.out hb7)
    clear hb7 HB6 HX6 HY6
    have x0 := cell_bk (j := 0) HX7.out rfl
    have x1 := cell_bk (j := 1) HX7.out rfl
    have x2 := cell_bk (j := 2) HX7.out rfl
    have x3 := cell_bk (j := 3) HX7.out rfl
    have x4 := cell_bk (j := 4) HX7.out rfl
    have y0 := cell_bk (j := 0) HY7.out rfl
    have y1 := cell_bk (j := 1) HY7.out rfl
    have y2 := cell_bk (j := 2) HY7.out rfl
    have y3 := cell_bk (j := 3) HY7.out rfl
    have y4 := cell_bk (j := 4) HY7.out rfl
    simp only [List.getElem_toArray, List.getElem_cons_zero, List.getElem_cons_succ] at x0 x1 x2 x3 x4 y0 y1 y2 y3 y4
    clear HX7 HY7
    go_wp2
    go_ret
    exact ⟨rfl, HB7.out⟩
end Go.Proofs.Ytecmfpgccmmlpaa

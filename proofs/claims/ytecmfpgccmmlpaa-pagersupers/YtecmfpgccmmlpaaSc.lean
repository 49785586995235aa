/- the document's Read -/
import Derived.Test.YtecmfpgccmmlpaaSb
namespace Go.Proofs.Ytecmfpgccmmlpaa
open Go.RowKit
set_option maxRecDepth 100000
set_option linter.unusedVariables false
set_option linter.unusedSimpArgs false
theorem rbytes_is (s : Sup) (hm : s.may = true) (w : World) : Calls Try.prog 10 #[supV s] w fun e w' => ∃ q c, e = .returned (.tuple #[.slice (some ⟨q, 0, none⟩) 4096 c, .int .i64 0]) ∧ IsB w' (some ⟨q, 0, none⟩) 4096 c (supL s) ∧ Below w.heap.size w w' := by
  refine (rbytes_ok s hm w).mono ?_
  rintro e w' ⟨v, rfl, h1, h2⟩
  obtain ⟨q, c, rfl, _, h3⟩ := own_isB h1 (supL_lt s) (by omega)
  exact ⟨q, c, rfl, h3, h2⟩
attribute [local go_sem ↓] Go.wp_at_zero Go.wp_at_succ
set_option maxHeartbeats 8000000 in
theorem rread_any (w : World) (a : Option Addr) (len cap : Nat) (l : List Nat) (h : IsB w a len cap l) : Calls Try.prog 12 #[.slice a len cap] w fun e w' => e = .returned (.tuple #[supV (rdS l), .int .i64 (rdE l)]) ∧ Below w.heap.size w w' := by
  have HB0 : Hid (Below w.heap.size w (w.alloc (.cells #[.int .u64 0, .int .i64 0, .int .u64 0, .int .i64 0, .int .i64 0] 24))) := hide ((Below.refl _ w).alloc (Nat.le_refl _) _)
  have HX : Hid ((w.alloc (.cells #[.int .u64 0, .int .i64 0, .int .u64 0, .int .i64 0, .int .i64 0] 24)).heap[w.heap.size]? = some (.cells #[.int .u64 0, .int .i64 0, .int .u64 0, .int .i64 0, .int .i64 0] 24 (0, 0))) := hide (heap_alloc_new w _)
  have HR : Hid (∀ s, readS l = some s → rdS l = s ∧ rdE l = 0) := hide (fun s hs => by simp [rdS, rdE, hs])
  have HN : Hid (readS l = none → rdS l = sup0 ∧ rdE l = 6) := hide (fun hs => by simp [rdS, rdE, hs])
  have HL := hide h.1
  by_cases hl : len = 4096
  · subst hl
    obtain ⟨b, off, rfl, hlt, hc⟩ := h.2.2.2.2.resolve_left (by omega)
    have hcap := h.2.1
    have hll := h.1
    have hmax := h.2.2.1
    unfold maxLen at hmax
    have L1 : Hid (∀ W : World, Below w.heap.size w W → Calls Try.prog 38 #[.slice (some ⟨b, off + 4, none⟩) 8 (cap - 4)] W fun e w' => e = .returned (.int .u64 (lowN (mid l 4 12) : Nat)) ∧ w' = W) := hide (fun W hW => number_any _ _ _ _ _ ((h.mid 4 12 (by omega) (by omega)).below hW) (by omega))
    have L2 : Hid (∀ W : World, Below w.heap.size w W → Calls Try.prog 38 #[.slice (some ⟨b, off + 12, none⟩) 8 (cap - 12)] W fun e w' => e = .returned (.int .u64 (lowN (mid l 12 20) : Nat)) ∧ w' = W) := hide (fun W hW => number_any _ _ _ _ _ ((h.mid 12 20 (by omega) (by omega)).below hW) (by omega))
    have L3 : Hid (∀ W : World, Below w.heap.size w W → Calls Try.prog 38 #[.slice (some ⟨b, off + 20, none⟩) 4 (cap - 20)] W fun e w' => e = .returned (.int .u64 (lowN (mid l 20 24) : Nat)) ∧ w' = W) := hide (fun W hW => number_any _ _ _ _ _ ((h.mid 20 24 (by omega) (by omega)).below hW) (by omega))
    have L4 : Hid (∀ W : World, Below w.heap.size w W → Calls Try.prog 38 #[.slice (some ⟨b, off + 24, none⟩) 4 (cap - 24)] W fun e w' => e = .returned (.int .u64 (lowN (mid l 24 28) : Nat)) ∧ w' = W) := hide (fun W hW => number_any _ _ _ _ _ ((h.mid 24 28 (by omega) (by omega)).below hW) (by omega))
    have L5 : Hid (∀ W : World, Below w.heap.size w W → Calls Try.prog 38 #[.slice (some ⟨b, off + 28, none⟩) 4 (cap - 28)] W fun e w' => e = .returned (.int .u64 (lowN (mid l 28 32) : Nat)) ∧ w' = W) := hide (fun W hW => number_any _ _ _ _ _ ((h.mid 28 32 (by omega) (by omega)).below hW) (by omega))
    have m1 : _ < 4294967296 := mid_lt h.2.2.2.1 20 24 (by omega) (by omega)
    have m2 : _ < 4294967296 := mid_lt h.2.2.2.1 24 28 (by omega) (by omega)
    have m3 : _ < 4294967296 := mid_lt h.2.2.2.1 28 32 (by omega) (by omega)
    have HD : Hid (decS l = ⟨lowN (mid l 4 12), lowN (mid l 20 24), lowN (mid l 12 20), lowN (mid l 24 28), lowN (mid l 28 32)⟩) := hide rfl
    generalize lowN (mid l 4 12) = G at *
    generalize lowN (mid l 12 20) = S at *
    generalize lowN (mid l 20 24) = R at *
    generalize lowN (mid l 24 28) = J at *
    generalize lowN (mid l 28 32) = V at *
    have k1 : IntKind.i64.wrap (R : Int) = R := by rw [IntKind.wrap_i64]; omega
    have k2 : IntKind.i64.wrap (J : Int) = J := by rw [IntKind.wrap_i64]; omega
    have k3 : IntKind.i64.wrap (V : Int) = V := by rw [IntKind.wrap_i64]; omega
    have z1 : ¬ cap = 4 := by omega
    have z2 : ¬ cap = 12 := by omega
    have z3 : ¬ cap = 20 := by omega
    have z4 : ¬ cap = 24 := by omega
    have z5 : ¬ cap = 28 := by omega
    have i0 : (4 : Int) ≤ (cap : Int) := by omega
    have i1 : (12 : Int) ≤ (cap : Int) := by omega
    have i2 : (20 : Int) ≤ (cap : Int) := by omega
    have i3 : (24 : Int) ≤ (cap : Int) := by omega
    have i4 : (28 : Int) ≤ (cap : Int) := by omega
    have i5 : (32 : Int) ≤ (cap : Int) := by omega
    have H := hide h
    clear m1 m2 m3 hc h hmax
    go_enter Try.func12, Try.ntmps12
    go_wp2_with fail
    generalize hV : (w.alloc (.cells #[.int .u64 0, .int .i64 0, .int .u64 0, .int .i64 0, .int .i64 0] 24)) = V0 at *
    clear hV
    have hb1 := HB0.out.drew
    have hb2 : Below w.heap.size w (V0.alloc (.cells #[.int .u64 0, .int .i64 0, .int .u64 0, .int .i64 0, .int .i64 0] 24)).drew := (HB0.out.alloc HB0.out.size _).drew
    have N1 := hide (L1.out _ hb1)
    have M1 := hide (L1.out _ hb2)
    have N2 := hide (L2.out _ hb1)
    have M2 := hide (L2.out _ hb2)
    have N3 := hide (L3.out _ hb1)
    have M3 := hide (L3.out _ hb2)
    have N4 := hide (L4.out _ hb1)
    have M4 := hide (L4.out _ hb2)
    have N5 := hide (L5.out _ hb1)
    have M5 := hide (L5.out _ hb2)
    clear hb1 hb2 L1 L2 L3 L4 L5
    go_region_held3 (fun _ : World => True) (trivial) ((go_at_call 38; (first | with_reducible refine N1.out.mono ?_ | with_reducible refine N2.out.mono ?_ | with_reducible refine N3.out.mono ?_ | with_reducible refine N4.out.mono ?_ | with_reducible refine N5.out.mono ?_ | with_reducible refine M1.out.mono ?_ | with_reducible refine M2.out.mono ?_ | with_reducible refine M3.out.mono ?_ | with_reducible refine M4.out.mono ?_ | with_reducible refine M5.out.mono ?_); rintro e w2 ⟨rfl, rfl⟩))
    all_goals
      have HB5 : Hid (Below w.heap.size w (V0.alloc (.cells #[.int .u64 (G : Nat), .int .i64 (R : Nat), .int .u64 (S : Nat), .int .i64 (J : Nat), .int .i64 (V : Nat)] 24)).drew) := hide ((HB0.out.alloc HB0.out.size _).drew)
      have HX5 : Hid ((V0.alloc (.cells #[.int .u64 (G : Nat), .int .i64 (R : Nat), .int .u64 (S : Nat), .int .i64 (J : Nat), .int .i64 (V : Nat)] 24)).drew.heap[w.heap.size]? = some (.cells #[.int .u64 0, .int .i64 0, .int .u64 0, .int .i64 0, .int .i64 0] 24 (0, 0))) := hide (((((Below.refl _ V0).alloc (Nat.le_refl _) _).drew).block _ (heap_lt HX.out)).trans HX.out)
      have HY5 : Hid ((V0.alloc (.cells #[.int .u64 (G : Nat), .int .i64 (R : Nat), .int .u64 (S : Nat), .int .i64 (J : Nat), .int .i64 (V : Nat)] 24)).drew.heap[V0.heap.size]? = some (.cells #[.int .u64 (G : Nat), .int .i64 (R : Nat), .int .u64 (S : Nat), .int .i64 (J : Nat), .int .i64 (V : Nat)] 24 (0, 0))) := hide (heap_alloc_new V0 _)
      have q0 := cell_bk (j := 0) HY5.out rfl
      have q1 := cell_bk (j := 1) HY5.out rfl
      have q2 := cell_bk (j := 2) HY5.out rfl
      have q3 := cell_bk (j := 3) HY5.out rfl
      have q4 := cell_bk (j := 4) HY5.out rfl
      simp only [List.getElem_toArray, List.getElem_cons_zero, List.getElem_cons_succ] at q0 q1 q2 q3 q4
      clear N1 N2 N3 N4 N5 M1 M2 M3 M4 M5 HB0 HX k1 k2 k3 z1 z2 z3 z4 z5
      cases hm : Sup.may ⟨G, R, S, J, V⟩
      · have HZ := hide (HN.out (by unfold readS; rw [HD.out, hm]; simp))
        have HBY : Hid (Calls Try.prog 10 #[.agg #[.int .u64 (G : Nat), .int .i64 (R : Nat), .int .u64 (S : Nat), .int .i64 (J : Nat), .int .i64 (V : Nat)]] (V0.alloc (.cells #[.int .u64 (G : Nat), .int .i64 (R : Nat), .int .u64 (S : Nat), .int .i64 (J : Nat), .int .i64 (V : Nat)] 24)).drew fun e w' => e = .returned (.tuple #[.slice none 0 0, .int .i64 2]) ∧ Below (V0.alloc (.cells #[.int .u64 (G : Nat), .int .i64 (R : Nat), .int .u64 (S : Nat), .int .i64 (J : Nat), .int .i64 (V : Nat)] 24)).drew.heap.size (V0.alloc (.cells #[.int .u64 (G : Nat), .int .i64 (R : Nat), .int .u64 (S : Nat), .int .i64 (J : Nat), .int .i64 (V : Nat)] 24)).drew w') := hide (rbytes_no ⟨G, R, S, J, V⟩ hm _)
        clear HR HN hm HD
        go_wp2_with fail
        refine HBY.out.mono ?_
        rintro e w6 ⟨rfl, hb6⟩
        have HB6 := hide (HB5.out.trans (hb6.mono HB5.out.size))
        have HX6 := hide ((hb6.block _ (heap_lt HX5.out)).trans HX5.out)
        clear hb6 HBY HB5 HX5 HY5 q0 q1 q2 q3 q4
        have y0 := cell_bk (j := 0) HX6.out rfl
        have y1 := cell_bk (j := 1) HX6.out rfl
        have y2 := cell_bk (j := 2) HX6.out rfl
        have y3 := cell_bk (j := 3) HX6.out rfl
        have y4 := cell_bk (j := 4) HX6.out rfl
        simp only [List.getElem_toArray, List.getElem_cons_zero, List.getElem_cons_succ] at y0 y1 y2 y3 y4
        have f0 := froz_bk HX6.out 0
        have f1 := froz_bk HX6.out 1
        have f2 := froz_bk HX6.out 2
        have f3 := froz_bk HX6.out 3
        have f4 := froz_bk HX6.out 4
        go_wp2
        (try simp only [Exit.inBlock, Exit.then])
        refine bodyPost_ret (resS2 rfl _ _ w.heap.size #[.int .u64 0, .int .i64 0, .int .u64 0, .int .i64 0, .int .i64 0] (blk5 HX6.out _ _ _ _ _) rfl rfl) rfl ?_
        exact ⟨by rw [HZ.out.1, HZ.out.2]; rfl, below5 HB6.out (Nat.le_refl _) _ _ _ _ _⟩
      · have HBY : Hid (Calls Try.prog 10 #[.agg #[.int .u64 (G : Nat), .int .i64 (R : Nat), .int .u64 (S : Nat), .int .i64 (J : Nat), .int .i64 (V : Nat)]] (V0.alloc (.cells #[.int .u64 (G : Nat), .int .i64 (R : Nat), .int .u64 (S : Nat), .int .i64 (J : Nat), .int .i64 (V : Nat)] 24)).drew fun e w' => ∃ q c, e = .returned (.tuple #[.slice (some ⟨q, 0, none⟩) 4096 c, .int .i64 0]) ∧ IsB w' (some ⟨q, 0, none⟩) 4096 c (supL ⟨G, R, S, J, V⟩) ∧ Below (V0.alloc (.cells #[.int .u64 (G : Nat), .int .i64 (R : Nat), .int .u64 (S : Nat), .int .i64 (J : Nat), .int .i64 (V : Nat)] 24)).drew.heap.size (V0.alloc (.cells #[.int .u64 (G : Nat), .int .i64 (R : Nat), .int .u64 (S : Nat), .int .i64 (J : Nat), .int .i64 (V : Nat)] 24)).drew w') := hide (rbytes_is ⟨G, R, S, J, V⟩ hm _)
        have HLT := hide (supL_lt ⟨G, R, S, J, V⟩)
        have HR1 : Hid (supL ⟨G, R, S, J, V⟩ = l → rdS l = ⟨G, R, S, J, V⟩ ∧ rdE l = 0) := hide (fun e => HR.out _ (by unfold readS; rw [HD.out, if_pos ⟨hll, hm, e⟩]))
        have HN1 : Hid (¬ supL ⟨G, R, S, J, V⟩ = l → rdS l = sup0 ∧ rdE l = 6) := hide (fun e => HN.out (by unfold readS; rw [HD.out, if_neg (fun h => e h.2.2)]))
        clear HR HN hm HD
        generalize supL ⟨G, R, S, J, V⟩ = SL at *
        go_wp2_with fail
        refine HBY.out.mono ?_
        rintro e w6 ⟨q, c, rfl, hI6, hb6⟩
        have HB6 := hide (HB5.out.trans (hb6.mono HB5.out.size))
        have HX6 := hide ((hb6.block _ (heap_lt HX5.out)).trans HX5.out)
        have HY6 := hide ((hb6.block _ (heap_lt HY5.out)).trans HY5.out)
        have hc1 := conv_str hI6
        have hc2 := conv_str (H.out.below HB6.out)
        have hlm := str_eq HLT.out H.out.2.2.2.1
        generalize str SL = t1 at *
        generalize str l = t2 at *
        clear hI6 hb6 HBY HB5 HX5 HY5 q0 q1 q2 q3 q4
        have y0 := cell_bk (j := 0) HX6.out rfl
        have y1 := cell_bk (j := 1) HX6.out rfl
        have y2 := cell_bk (j := 2) HX6.out rfl
        have y3 := cell_bk (j := 3) HX6.out rfl
        have y4 := cell_bk (j := 4) HX6.out rfl
        have q0 := cell_bk (j := 0) HY6.out rfl
        have q1 := cell_bk (j := 1) HY6.out rfl
        have q2 := cell_bk (j := 2) HY6.out rfl
        have q3 := cell_bk (j := 3) HY6.out rfl
        have q4 := cell_bk (j := 4) HY6.out rfl
        simp only [List.getElem_toArray, List.getElem_cons_zero, List.getElem_cons_succ] at y0 y1 y2 y3 y4 q0 q1 q2 q3 q4
        have f0 := froz_bk HX6.out 0
        have f1 := froz_bk HX6.out 1
        have f2 := froz_bk HX6.out 2
        have f3 := froz_bk HX6.out 3
        have f4 := froz_bk HX6.out 4
        by_cases he : SL = l
        · have HZ := hide (HR1.out he)
          rw [show decide (SL = l) = true from decide_eq_true he] at hlm
          clear HR1 HN1 he
          go_wp2
          (try simp only [Exit.inBlock, Exit.then])
          refine bodyPost_ret (resS2 rfl _ _ w.heap.size #[.int .u64 (G : Nat), .int .i64 (R : Nat), .int .u64 (S : Nat), .int .i64 (J : Nat), .int .i64 (V : Nat)] (blk5 HX6.out _ _ _ _ _) rfl rfl) rfl ?_
          exact ⟨by rw [HZ.out.1, HZ.out.2]; rfl, below5 HB6.out (Nat.le_refl _) _ _ _ _ _⟩
        · have HZ := hide (HN1.out he)
          rw [show decide (SL = l) = false from decide_eq_false he] at hlm
          clear HR1 HN1 he
          go_wp2
          (try simp only [Exit.inBlock, Exit.then])
          refine bodyPost_ret (resS2 rfl _ _ w.heap.size #[.int .u64 0, .int .i64 0, .int .u64 0, .int .i64 0, .int .i64 0] (blk5 HX6.out _ _ _ _ _) rfl rfl) rfl ?_
          exact ⟨by rw [HZ.out.1, HZ.out.2]; rfl, below5 HB6.out (Nat.le_refl _) _ _ _ _ _⟩
  · have d0 : ((len : Int) != 4096) = true := by simp; omega
    have HZ := hide (HN.out (by unfold readS; rw [if_neg (fun e => hl (by rw [← HL.out]; exact e.1))]))
    clear HR HN h hl
    go_enter Try.func12, Try.ntmps12
    go_wp2
    (try simp only [Exit.inBlock, Exit.then])
    refine bodyPost_ret (resS2 rfl _ _ w.heap.size #[.int .u64 0, .int .i64 0, .int .u64 0, .int .i64 0, .int .i64 0] HX.out rfl rfl) rfl ?_
    exact ⟨by rw [HZ.out.1, HZ.out.2]; rfl, HB0.out⟩
end Go.Proofs.Ytecmfpgccmmlpaa

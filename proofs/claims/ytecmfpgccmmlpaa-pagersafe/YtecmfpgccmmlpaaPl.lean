/- superAt -/
import Derived.Test.YtecmfpgccmmlpaaPf
import Derived.Test.YtecmfpgccmmlpaaPd
import Derived.Deep.QuietTactic
import Derived.BigQuiet
namespace Go.Proofs.Ytecmfpgccmmlpaa
open Go.RowKit
set_option maxRecDepth 100000
set_option linter.unusedVariables false
set_option linter.unusedSimpArgs false
def St.sAtE (n k : Nat) (st : St) : Int := if st.readE n k ≠ 0 then st.readE n k else if (supAt n k (st.readL n k)).isSome then 0 else 6
def St.sAtS (n k : Nat) (st : St) : Sup := if st.readE n k ≠ 0 then sup0 else (supAt n k (st.readL n k)).getD sup0
def zc5 : Array Value := #[.int .u64 0, .int .i64 0, .int .u64 0, .int .i64 0, .int .i64 0]
def CB (V W : World) : Prop := Below V.heap.size V W
theorem CB.trans {V W W' : World} (h : CB V W) (hb : Below W.heap.size W W') : CB V W' := Below.trans h (hb.mono h.size)
theorem wp_region_quiet_C {P : Program} {C : World → Prop} {id : Nat} {Q : Exit → Act → World → Prop} {a : Act} {w : World} {l : List Oper} (hm : P.follows .mixedOrders = true) (hB : Region.lexB .any l.toArray = true) (hC : C { w with drawn := w.drawn + 1 })
    (h : wpQuiet P l.toArray C (fun a' => ∀ w', C w' → Q .normal a' w') l a) : (Code.region id l.toArray true).wp P Q a w :=
  wp_region_quiet hm hB hC (by simpa using h)
set_option maxHeartbeats 4000000 in
theorem superAt_any (w : World) (g gs b n : Nat) (st : St) (h : IsD NoX w g gs b n st) (k : Nat) (hk : k < 2) : Calls Try.prog 64 #[.iface 34 (.pointer (some ⟨g, 0, none⟩)), .int .i64 (k : Nat)] w fun e w' => e = .returned (.tuple #[supV (st.sAtS n k), .int .i64 (st.sAtE n k)]) ∧ Below w.heap.size w w' := by
  have HB0 : Hid (Below w.heap.size w (w.alloc (.cells #[.int .u64 0, .int .i64 0, .int .u64 0, .int .i64 0, .int .i64 0] 24))) := hide ((Below.refl _ w).alloc (Nat.le_refl _) _)
  have HX : Hid ((w.alloc (.cells #[.int .u64 0, .int .i64 0, .int .u64 0, .int .i64 0, .int .i64 0] 24)).heap[w.heap.size]? = some (.cells #[.int .u64 0, .int .i64 0, .int .u64 0, .int .i64 0, .int .i64 0] 24 (0, 0))) := hide (heap_alloc_new w _)
  have HRD := hide (read_any (X := NoX) _ g gs b n st (h.below HB0.out) (k : Int))
  have HE : Hid (st.sAtE n k = if st.readE n k ≠ 0 then st.readE n k else if (supAt n k (st.readL n k)).isSome then 0 else 6) := hide rfl
  have HS : Hid (st.sAtS n k = if st.readE n k ≠ 0 then sup0 else (supAt n k (st.readL n k)).getD sup0) := hide rfl
  have hm : ∀ W : World, (method 251 34 (.pointer (some ⟨g, 0, none⟩)) "Read").run Try.prog W = .ok (114, .pointer (some ⟨g, 0, none⟩)) W := fun W => method_read W _
  have hm2 : ∀ W : World, (method 251 34 (.pointer (some ⟨g, 0, none⟩)) "Sectors").run Try.prog W = .ok (40, .pointer (some ⟨g, 0, none⟩)) W := fun W => method_sectors W _
  have HD := hide h
  have hn := h.n1
  clear h
  generalize st.sAtE n k = SE at *
  generalize st.sAtS n k = SS at *
  generalize st.readE n k = RE at *
  generalize st.readL n k = RL at *
  by_cases hr : RE = 0
  · subst hr
    have HE1 : Hid (SE = if (supAt n k RL).isSome then 0 else 6) := hide (by rw [HE.out, if_neg (by decide)])
    have HS1 : Hid (SS = (supAt n k RL).getD sup0) := hide (by rw [HS.out, if_neg (by decide)])
    clear HE HS
    have HRR := hide (fun (W : World) (a : Option Addr) (len cap : Nat) (hB : IsB W a len cap RL) => read_any' W a len cap RL hB)
    cases hrs : readS RL
    · have HN : Hid (rdE RL = 6 ∧ rdS RL = sup0) := hide (by simp [rdE, rdS, hrs])
      have HZ : Hid (SE = 6 ∧ SS = sup0) := hide (by rw [HE1.out, HS1.out, supAt, hrs]; simp)
      rw [HN.out.1, HN.out.2] at HRR
      unfold supV supC sup0 at HRR
      clear HN HE1 HS1 hrs
      go_enter Try.func64, Try.ntmps64
      go_wp2_with fail
      (try go_at_call 114)
      refine HRD.out.mono ?_
      rintro e w1 ⟨a, len, cap, rfl, hB, hb1⟩
      have HR2 := hide (HRR.out w1 a len cap hB)
      have HB1 := hide (HB0.out.trans (hb1.mono HB0.out.size))
      have HX1 := hide ((hb1.block _ (heap_lt HX.out)).trans HX.out)
      clear hB hb1 HRD HB0 HX HRR
      go_wp2_with fail
      refine HR2.out.mono ?_
      rintro e w2 ⟨rfl, hb2⟩
      have HB2 : Hid (Below w.heap.size w (w2.alloc (.cells #[.int .u64 0, .int .i64 0, .int .u64 0, .int .i64 0, .int .i64 0] 24))) := hide ((HB1.out.trans (hb2.mono HB1.out.size)).alloc (by have := HB1.out.size; have := hb2.size; omega) _)
      have HX2 : Hid ((w2.alloc (.cells #[.int .u64 0, .int .i64 0, .int .u64 0, .int .i64 0, .int .i64 0] 24)).heap[w.heap.size]? = some (.cells #[.int .u64 0, .int .i64 0, .int .u64 0, .int .i64 0, .int .i64 0] 24 (0, 0))) := hide (((hb2.alloc hb2.size _).block _ (heap_lt HX1.out)).trans HX1.out)
      clear hb2 HR2 HB1 HX1
      have y0 := cell_bk (j := 0) HX2.out rfl
      have y1 := cell_bk (j := 1) HX2.out rfl
      have y2 := cell_bk (j := 2) HX2.out rfl
      have y3 := cell_bk (j := 3) HX2.out rfl
      have y4 := cell_bk (j := 4) HX2.out rfl
      simp only [List.getElem_toArray, List.getElem_cons_zero, List.getElem_cons_succ] at y0 y1 y2 y3 y4
      have f0 := froz_bk HX2.out 0
      have f1 := froz_bk HX2.out 1
      have f2 := froz_bk HX2.out 2
      have f3 := froz_bk HX2.out 3
      have f4 := froz_bk HX2.out 4
      go_wp2
      (try simp only [Exit.inBlock, Exit.then])
      refine bodyPost_ret (resS2 rfl _ _ w.heap.size #[.int .u64 0, .int .i64 0, .int .u64 0, .int .i64 0, .int .i64 0] (blk5 HX2.out _ _ _ _ _) rfl rfl) rfl ?_
      exact ⟨by rw [HZ.out.1, HZ.out.2]; rfl, below5 HB2.out (Nat.le_refl _) _ _ _ _ _⟩
    · rename_i s
      have HN : Hid (rdE RL = 0 ∧ rdS RL = s) := hide (by simp [rdE, rdS, hrs])
      have HZ1 : Hid (s.fits n k = true → SE = 0 ∧ SS = s) := hide (fun hf => by rw [HE1.out, HS1.out, supAt, hrs]; simp [Option.filter, hf])
      have HZ2 : Hid (s.fits n k = false → SE = 6 ∧ SS = sup0) := hide (fun hf => by rw [HE1.out, HS1.out, supAt, hrs]; simp [Option.filter, hf])
      have hmay := (readS_some hrs).1
      obtain ⟨g1, g2, g3, g4, g5, g6, g7, g8, g9, g10⟩ := s.of_may hmay
      rw [HN.out.1, HN.out.2] at HRR
      clear HN HE1 HS1 hrs hmay
      have HF1 := hide (fun W => first_any s.jn (by omega) (by omega) W)
      have HH := hide (fun W => home_any s W (by omega))
      have HFT := hide (fun W => fits_any s.jn n hn W)
      obtain ⟨gen, root, seq, jn, live⟩ := s
      unfold supV supC at HRR HH
      dsimp only at HRR HH HF1 HFT g1 g2 g3 g4 g5 g6 g7 g8 g9 g10
      have HFE : Hid (Sup.fits n k ⟨gen, root, seq, jn, live⟩ = decide (gen % 2 = k ∧ 1 ≤ jn ∧ jn ≤ (n : Int) - 34 ∧ (root = 0 ∨ (2 + jn ≤ root ∧ root < n)))) := hide rfl
      generalize Sup.fits n k ⟨gen, root, seq, jn, live⟩ = FT at *
      obtain ⟨GM, hGM⟩ : ∃ x, gen % 2 = x := ⟨_, rfl⟩
      rw [hGM] at HH HFE
      clear hGM
      go_enter Try.func64, Try.ntmps64
      go_wp2_with fail
      (try go_at_call 114)
      refine HRD.out.mono ?_
      rintro e w1 ⟨a, len, cap, rfl, hB, hb1⟩
      have HR2 := hide (HRR.out w1 a len cap hB)
      have HB1 := hide (HB0.out.trans (hb1.mono HB0.out.size))
      have HX1 := hide ((hb1.block _ (heap_lt HX.out)).trans HX.out)
      clear hB hb1 HRD HB0 HX HRR
      go_wp2_with fail
      refine HR2.out.mono ?_
      rintro e w2 ⟨rfl, hb2⟩
      have HB2 : Hid (Below w.heap.size w (w2.alloc (.cells #[.int .u64 (gen : Nat), .int .i64 root, .int .u64 (seq : Nat), .int .i64 jn, .int .i64 live] 24))) := hide ((HB1.out.trans (hb2.mono HB1.out.size)).alloc (by have := HB1.out.size; have := hb2.size; omega) _)
      have HX2 : Hid ((w2.alloc (.cells #[.int .u64 (gen : Nat), .int .i64 root, .int .u64 (seq : Nat), .int .i64 jn, .int .i64 live] 24)).heap[w.heap.size]? = some (.cells #[.int .u64 0, .int .i64 0, .int .u64 0, .int .i64 0, .int .i64 0] 24 (0, 0))) := hide (((hb2.alloc hb2.size _).block _ (heap_lt HX1.out)).trans HX1.out)
      have HY2 : Hid ((w2.alloc (.cells #[.int .u64 (gen : Nat), .int .i64 root, .int .u64 (seq : Nat), .int .i64 jn, .int .i64 live] 24)).heap[w2.heap.size]? = some (.cells #[.int .u64 (gen : Nat), .int .i64 root, .int .u64 (seq : Nat), .int .i64 jn, .int .i64 live] 24 (0, 0))) := hide (heap_alloc_new w2 _)
      clear hb2 HR2 HB1 HX1
      have q0 := cell_bk (j := 0) HY2.out rfl
      have q1 := cell_bk (j := 1) HY2.out rfl
      have q2 := cell_bk (j := 2) HY2.out rfl
      have q3 := cell_bk (j := 3) HY2.out rfl
      have q4 := cell_bk (j := 4) HY2.out rfl
      simp only [List.getElem_toArray, List.getElem_cons_zero, List.getElem_cons_succ] at q0 q1 q2 q3 q4
      go_wp2_with fail
      have HSC := hide (fun m => sectors_any (X := NoX) ((w2.alloc (.cells #[.int .u64 (gen : Nat), .int .i64 root, .int .u64 (seq : Nat), .int .i64 jn, .int .i64 live] 24)).drewN m) g gs b n st (HD.out.below (below_drewN HB2.out m)))
      have key : ∃ P : Bool, P = decide (2 + jn ≤ root ∧ root < (n : Int)) := ⟨_, rfl⟩
      obtain ⟨P, hP⟩ := key
      have HP := hide hP
      clear hP
      by_cases hA : 2 + jn ≤ root
      · have eA : decide (2 + jn ≤ root) = true := decide_eq_true hA
        by_cases hBn : root < (n : Int)
        · have eB : decide (root < (n : Int)) = true := decide_eq_true hBn
          have HP2 : Hid (P = true) := hide (by rw [HP.out]; exact decide_eq_true ⟨hA, hBn⟩)
          go_quiet ((first | (go_at_call 46; exact Calls.quiet_of_same (HF1.out _)) | (go_at_call 40; exact Calls.quiet_of_same (HSC.out _))))
          go_wp2_with fail
          have HBV : Hid (Below w.heap.size w ((w2.alloc (.cells #[.int .u64 (gen : Nat), .int .i64 root, .int .u64 (seq : Nat), .int .i64 jn, .int .i64 live] 24)).drewN nq)) := hide (below_drewN HB2.out nq)
          have HXV : Hid (((w2.alloc (.cells #[.int .u64 (gen : Nat), .int .i64 root, .int .u64 (seq : Nat), .int .i64 jn, .int .i64 live] 24)).drewN nq).heap[w.heap.size]? = some (.cells #[.int .u64 0, .int .i64 0, .int .u64 0, .int .i64 0, .int .i64 0] 24 (0, 0))) := hide HX2.out
          have HYV : Hid (((w2.alloc (.cells #[.int .u64 (gen : Nat), .int .i64 root, .int .u64 (seq : Nat), .int .i64 jn, .int .i64 live] 24)).drewN nq).heap[w2.heap.size]? = some (.cells #[.int .u64 (gen : Nat), .int .i64 root, .int .u64 (seq : Nat), .int .i64 jn, .int .i64 live] 24 (0, 0))) := hide HY2.out
          clear HB2 HX2 HY2 HSC q0 q1 q2 q3 q4 HF1
          generalize hV : (w2.alloc (.cells #[.int .u64 (gen : Nat), .int .i64 root, .int .u64 (seq : Nat), .int .i64 jn, .int .i64 live] 24)).drewN nq = V at *
          clear hV
          have HQ : Hid (∀ W, CB V W → W.cell? ⟨w2.heap.size, 0, none⟩ = some (.int .u64 (gen : Nat)) ∧ W.cell? ⟨w2.heap.size, 1, none⟩ = some (.int .i64 root) ∧ W.cell? ⟨w2.heap.size, 2, none⟩ = some (.int .u64 (seq : Nat)) ∧ W.cell? ⟨w2.heap.size, 3, none⟩ = some (.int .i64 jn) ∧ W.cell? ⟨w2.heap.size, 4, none⟩ = some (.int .i64 live) ∧ Calls Try.prog 40 #[.pointer (some ⟨g, 0, none⟩)] W fun e w' => e = .returned (.int .i64 (n : Nat)) ∧ w' = W) := hide (fun W hW => by
            have hh := (hW.block w2.heap.size (heap_lt HYV.out)).trans HYV.out
            exact ⟨cell_bk hh rfl, cell_bk hh rfl, cell_bk hh rfl, cell_bk hh rfl, cell_bk hh rfl, sectors_any (X := NoX) W g gs b n st (HD.out.below (HBV.out.trans (hW.mono HBV.out.size)))⟩)
          by_cases hM : GM = k
          · have eM : ((GM : Int) != (k : Int)) = false := by simp [hM]
            by_cases hF : 1 ≤ jn ∧ jn ≤ (n : Int) - 34
            · have eF : fitsB jn n = true := decide_eq_true hF
              rw [eF] at HFT
              by_cases hR : root = 0
              · exfalso; omega
              · have eR : (root != 0) = true := by simpa using hR
                have HZ := hide (HZ1.out (by rw [HFE.out]; exact decide_eq_true ⟨hM, hF.1, hF.2, .inr ⟨hA, hBn⟩⟩))
                clear HZ1 HZ2 HFE eF hF hM hR
                refine wp_region_quiet_C (C := CB V) (by kernel_rfl) (by kernel_rfl) (show Below _ _ _ from (Below.refl _ V).drew) ?_
                repeat (first | go_big_quiet_skip | (go_big_quiet_want; go_big_quiet_op; (first | go_big_quiet_on | (refine ⟨_, fun _ => rfl, ?_⟩; go_big_quiet_on) | (refine ⟨_, fun _ _ => rfl, ?_⟩; go_big_quiet_on) | (apply Exists.intro; refine ⟨fun W hW => ?_, ?_⟩; (obtain ⟨r0, r1, r2, r3, r4, s5⟩ := HQ.out W hW; first | (go_simp; with_reducible rfl) | exact (HH.out W).mono (by rintro e w' ⟨rfl, hb⟩; exact ⟨rfl, CB.trans hW hb⟩) | exact s5.mono (by rintro e w' ⟨rfl, rfl⟩; exact ⟨rfl, hW⟩) | exact (HFT.out W).mono (by rintro e w' ⟨rfl, rfl⟩; exact ⟨rfl, hW⟩)); go_big_quiet_on))))
                refine wpQuiet_nil ?_
                intro W hW
                have HB6 := hide (HBV.out.trans (hW.mono HBV.out.size))
                have HX6 := hide ((hW.block _ (heap_lt HXV.out)).trans HXV.out)
                have HY6 := hide ((hW.block _ (heap_lt HYV.out)).trans HYV.out)
                have y0 := cell_bk (j := 0) HX6.out rfl
                have y1 := cell_bk (j := 1) HX6.out rfl
                have y2 := cell_bk (j := 2) HX6.out rfl
                have y3 := cell_bk (j := 3) HX6.out rfl
                have y4 := cell_bk (j := 4) HX6.out rfl
                have p0 := cell_bk (j := 0) HY6.out rfl
                have p1 := cell_bk (j := 1) HY6.out rfl
                have p2 := cell_bk (j := 2) HY6.out rfl
                have p3 := cell_bk (j := 3) HY6.out rfl
                have p4 := cell_bk (j := 4) HY6.out rfl
                simp only [List.getElem_toArray, List.getElem_cons_zero, List.getElem_cons_succ] at y0 y1 y2 y3 y4 p0 p1 p2 p3 p4
                have f0 := froz_bk HX6.out 0
                have f1 := froz_bk HX6.out 1
                have f2 := froz_bk HX6.out 2
                have f3 := froz_bk HX6.out 3
                have f4 := froz_bk HX6.out 4
                clear HQ HFT HXV HYV HBV hW
                go_wp2
                (try simp only [Exit.inBlock, Exit.then])
                refine bodyPost_ret (resS2 rfl _ _ w.heap.size #[.int .u64 (gen : Nat), .int .i64 root, .int .u64 (seq : Nat), .int .i64 jn, .int .i64 live] (blk5 HX6.out _ _ _ _ _) rfl rfl) rfl ?_
                exact ⟨by rw [HZ.out.1, HZ.out.2]; rfl, below5 HB6.out (Nat.le_refl _) _ _ _ _ _⟩
            · have eF : fitsB jn n = false := decide_eq_false hF
              rw [eF] at HFT
              have HZ := hide (HZ2.out (by rw [HFE.out]; exact decide_eq_false (fun h => hF ⟨h.2.1, h.2.2.1⟩)))
              clear HZ1 HZ2 HFE eF hF hM
              refine wp_region_quiet_C (C := CB V) (by kernel_rfl) (by kernel_rfl) (show Below _ _ _ from (Below.refl _ V).drew) ?_
              repeat (first | go_big_quiet_skip | (go_big_quiet_want; go_big_quiet_op; (first | go_big_quiet_on | (refine ⟨_, fun _ => rfl, ?_⟩; go_big_quiet_on) | (refine ⟨_, fun _ _ => rfl, ?_⟩; go_big_quiet_on) | (apply Exists.intro; refine ⟨fun W hW => ?_, ?_⟩; (obtain ⟨r0, r1, r2, r3, r4, s5⟩ := HQ.out W hW; first | (go_simp; with_reducible rfl) | exact (HH.out W).mono (by rintro e w' ⟨rfl, hb⟩; exact ⟨rfl, CB.trans hW hb⟩) | exact s5.mono (by rintro e w' ⟨rfl, rfl⟩; exact ⟨rfl, hW⟩) | exact (HFT.out W).mono (by rintro e w' ⟨rfl, rfl⟩; exact ⟨rfl, hW⟩)); go_big_quiet_on))))
              refine wpQuiet_nil ?_
              intro W hW
              have HB6 := hide (HBV.out.trans (hW.mono HBV.out.size))
              have HX6 := hide ((hW.block _ (heap_lt HXV.out)).trans HXV.out)
              have HY6 := hide ((hW.block _ (heap_lt HYV.out)).trans HYV.out)
              have y0 := cell_bk (j := 0) HX6.out rfl
              have y1 := cell_bk (j := 1) HX6.out rfl
              have y2 := cell_bk (j := 2) HX6.out rfl
              have y3 := cell_bk (j := 3) HX6.out rfl
              have y4 := cell_bk (j := 4) HX6.out rfl
              simp only [List.getElem_toArray, List.getElem_cons_zero, List.getElem_cons_succ] at y0 y1 y2 y3 y4
              have f0 := froz_bk HX6.out 0
              have f1 := froz_bk HX6.out 1
              have f2 := froz_bk HX6.out 2
              have f3 := froz_bk HX6.out 3
              have f4 := froz_bk HX6.out 4
              clear HQ HFT HXV HYV HBV hW
              go_wp2
              (try simp only [Exit.inBlock, Exit.then])
              refine bodyPost_ret (resS2 rfl _ _ w.heap.size #[.int .u64 0, .int .i64 0, .int .u64 0, .int .i64 0, .int .i64 0] (blk5 HX6.out _ _ _ _ _) rfl rfl) rfl ?_
              exact ⟨by rw [HZ.out.1, HZ.out.2]; rfl, below5 HB6.out (Nat.le_refl _) _ _ _ _ _⟩
          · have eM : ((GM : Int) != (k : Int)) = true := by simp; omega
            have HZ := hide (HZ2.out (by rw [HFE.out]; exact decide_eq_false (fun h => hM h.1)))
            clear HZ1 HZ2 HFE hM
            refine wp_region_quiet_C (C := CB V) (by kernel_rfl) (by kernel_rfl) (show Below _ _ _ from (Below.refl _ V).drew) ?_
            repeat (first | go_big_quiet_skip | (go_big_quiet_want; go_big_quiet_op; (first | go_big_quiet_on | (refine ⟨_, fun _ => rfl, ?_⟩; go_big_quiet_on) | (refine ⟨_, fun _ _ => rfl, ?_⟩; go_big_quiet_on) | (apply Exists.intro; refine ⟨fun W hW => ?_, ?_⟩; (obtain ⟨r0, r1, r2, r3, r4, s5⟩ := HQ.out W hW; first | (go_simp; with_reducible rfl) | exact (HH.out W).mono (by rintro e w' ⟨rfl, hb⟩; exact ⟨rfl, CB.trans hW hb⟩) | exact s5.mono (by rintro e w' ⟨rfl, rfl⟩; exact ⟨rfl, hW⟩) | exact (HFT.out W).mono (by rintro e w' ⟨rfl, rfl⟩; exact ⟨rfl, hW⟩)); go_big_quiet_on))))
            refine wpQuiet_nil ?_
            intro W hW
            have HB6 := hide (HBV.out.trans (hW.mono HBV.out.size))
            have HX6 := hide ((hW.block _ (heap_lt HXV.out)).trans HXV.out)
            have HY6 := hide ((hW.block _ (heap_lt HYV.out)).trans HYV.out)
            have y0 := cell_bk (j := 0) HX6.out rfl
            have y1 := cell_bk (j := 1) HX6.out rfl
            have y2 := cell_bk (j := 2) HX6.out rfl
            have y3 := cell_bk (j := 3) HX6.out rfl
            have y4 := cell_bk (j := 4) HX6.out rfl
            simp only [List.getElem_toArray, List.getElem_cons_zero, List.getElem_cons_succ] at y0 y1 y2 y3 y4
            have f0 := froz_bk HX6.out 0
            have f1 := froz_bk HX6.out 1
            have f2 := froz_bk HX6.out 2
            have f3 := froz_bk HX6.out 3
            have f4 := froz_bk HX6.out 4
            clear HQ HFT HXV HYV HBV hW
            go_wp2
            (try simp only [Exit.inBlock, Exit.then])
            refine bodyPost_ret (resS2 rfl _ _ w.heap.size #[.int .u64 0, .int .i64 0, .int .u64 0, .int .i64 0, .int .i64 0] (blk5 HX6.out _ _ _ _ _) rfl rfl) rfl ?_
            exact ⟨by rw [HZ.out.1, HZ.out.2]; rfl, below5 HB6.out (Nat.le_refl _) _ _ _ _ _⟩
        · have eB : decide (root < (n : Int)) = false := decide_eq_false hBn
          have HP2 : Hid (P = false) := hide (by rw [HP.out]; exact decide_eq_false (fun h => hBn h.2))
          go_quiet ((first | (go_at_call 46; exact Calls.quiet_of_same (HF1.out _)) | (go_at_call 40; exact Calls.quiet_of_same (HSC.out _))))
          go_wp2_with fail
          have HBV : Hid (Below w.heap.size w ((w2.alloc (.cells #[.int .u64 (gen : Nat), .int .i64 root, .int .u64 (seq : Nat), .int .i64 jn, .int .i64 live] 24)).drewN nq)) := hide (below_drewN HB2.out nq)
          have HXV : Hid (((w2.alloc (.cells #[.int .u64 (gen : Nat), .int .i64 root, .int .u64 (seq : Nat), .int .i64 jn, .int .i64 live] 24)).drewN nq).heap[w.heap.size]? = some (.cells #[.int .u64 0, .int .i64 0, .int .u64 0, .int .i64 0, .int .i64 0] 24 (0, 0))) := hide HX2.out
          have HYV : Hid (((w2.alloc (.cells #[.int .u64 (gen : Nat), .int .i64 root, .int .u64 (seq : Nat), .int .i64 jn, .int .i64 live] 24)).drewN nq).heap[w2.heap.size]? = some (.cells #[.int .u64 (gen : Nat), .int .i64 root, .int .u64 (seq : Nat), .int .i64 jn, .int .i64 live] 24 (0, 0))) := hide HY2.out
          clear HB2 HX2 HY2 HSC q0 q1 q2 q3 q4 HF1
          generalize hV : (w2.alloc (.cells #[.int .u64 (gen : Nat), .int .i64 root, .int .u64 (seq : Nat), .int .i64 jn, .int .i64 live] 24)).drewN nq = V at *
          clear hV
          have HQ : Hid (∀ W, CB V W → W.cell? ⟨w2.heap.size, 0, none⟩ = some (.int .u64 (gen : Nat)) ∧ W.cell? ⟨w2.heap.size, 1, none⟩ = some (.int .i64 root) ∧ W.cell? ⟨w2.heap.size, 2, none⟩ = some (.int .u64 (seq : Nat)) ∧ W.cell? ⟨w2.heap.size, 3, none⟩ = some (.int .i64 jn) ∧ W.cell? ⟨w2.heap.size, 4, none⟩ = some (.int .i64 live) ∧ Calls Try.prog 40 #[.pointer (some ⟨g, 0, none⟩)] W fun e w' => e = .returned (.int .i64 (n : Nat)) ∧ w' = W) := hide (fun W hW => by
            have hh := (hW.block w2.heap.size (heap_lt HYV.out)).trans HYV.out
            exact ⟨cell_bk hh rfl, cell_bk hh rfl, cell_bk hh rfl, cell_bk hh rfl, cell_bk hh rfl, sectors_any (X := NoX) W g gs b n st (HD.out.below (HBV.out.trans (hW.mono HBV.out.size)))⟩)
          by_cases hM : GM = k
          · have eM : ((GM : Int) != (k : Int)) = false := by simp [hM]
            by_cases hF : 1 ≤ jn ∧ jn ≤ (n : Int) - 34
            · have eF : fitsB jn n = true := decide_eq_true hF
              rw [eF] at HFT
              by_cases hR : root = 0
              · have HZ := hide (HZ1.out (by rw [HFE.out]; exact decide_eq_true ⟨hM, hF.1, hF.2, .inl hR⟩))
                have eR : (root != 0) = false := by simp [hR]
                clear HZ1 HZ2 HFE eF hF hM hR
                refine wp_region_quiet_C (C := CB V) (by kernel_rfl) (by kernel_rfl) (show Below _ _ _ from (Below.refl _ V).drew) ?_
                repeat (first | go_big_quiet_skip | (go_big_quiet_want; go_big_quiet_op; (first | go_big_quiet_on | (refine ⟨_, fun _ => rfl, ?_⟩; go_big_quiet_on) | (refine ⟨_, fun _ _ => rfl, ?_⟩; go_big_quiet_on) | (apply Exists.intro; refine ⟨fun W hW => ?_, ?_⟩; (obtain ⟨r0, r1, r2, r3, r4, s5⟩ := HQ.out W hW; first | (go_simp; with_reducible rfl) | exact (HH.out W).mono (by rintro e w' ⟨rfl, hb⟩; exact ⟨rfl, CB.trans hW hb⟩) | exact s5.mono (by rintro e w' ⟨rfl, rfl⟩; exact ⟨rfl, hW⟩) | exact (HFT.out W).mono (by rintro e w' ⟨rfl, rfl⟩; exact ⟨rfl, hW⟩)); go_big_quiet_on))))
                refine wpQuiet_nil ?_
                intro W hW
                have HB6 := hide (HBV.out.trans (hW.mono HBV.out.size))
                have HX6 := hide ((hW.block _ (heap_lt HXV.out)).trans HXV.out)
                have HY6 := hide ((hW.block _ (heap_lt HYV.out)).trans HYV.out)
                have y0 := cell_bk (j := 0) HX6.out rfl
                have y1 := cell_bk (j := 1) HX6.out rfl
                have y2 := cell_bk (j := 2) HX6.out rfl
                have y3 := cell_bk (j := 3) HX6.out rfl
                have y4 := cell_bk (j := 4) HX6.out rfl
                have p0 := cell_bk (j := 0) HY6.out rfl
                have p1 := cell_bk (j := 1) HY6.out rfl
                have p2 := cell_bk (j := 2) HY6.out rfl
                have p3 := cell_bk (j := 3) HY6.out rfl
                have p4 := cell_bk (j := 4) HY6.out rfl
                simp only [List.getElem_toArray, List.getElem_cons_zero, List.getElem_cons_succ] at y0 y1 y2 y3 y4 p0 p1 p2 p3 p4
                have f0 := froz_bk HX6.out 0
                have f1 := froz_bk HX6.out 1
                have f2 := froz_bk HX6.out 2
                have f3 := froz_bk HX6.out 3
                have f4 := froz_bk HX6.out 4
                clear HQ HFT HXV HYV HBV hW
                go_wp2
                (try simp only [Exit.inBlock, Exit.then])
                refine bodyPost_ret (resS2 rfl _ _ w.heap.size #[.int .u64 (gen : Nat), .int .i64 root, .int .u64 (seq : Nat), .int .i64 jn, .int .i64 live] (blk5 HX6.out _ _ _ _ _) rfl rfl) rfl ?_
                exact ⟨by rw [HZ.out.1, HZ.out.2]; rfl, below5 HB6.out (Nat.le_refl _) _ _ _ _ _⟩
              · have eR : (root != 0) = true := by simpa using hR
                have HZ := hide (HZ2.out (by rw [HFE.out]; exact decide_eq_false (fun h => by have := h.2.2.2; omega)))
                clear HZ1 HZ2 HFE eF hF hM hR
                refine wp_region_quiet_C (C := CB V) (by kernel_rfl) (by kernel_rfl) (show Below _ _ _ from (Below.refl _ V).drew) ?_
                repeat (first | go_big_quiet_skip | (go_big_quiet_want; go_big_quiet_op; (first | go_big_quiet_on | (refine ⟨_, fun _ => rfl, ?_⟩; go_big_quiet_on) | (refine ⟨_, fun _ _ => rfl, ?_⟩; go_big_quiet_on) | (apply Exists.intro; refine ⟨fun W hW => ?_, ?_⟩; (obtain ⟨r0, r1, r2, r3, r4, s5⟩ := HQ.out W hW; first | (go_simp; with_reducible rfl) | exact (HH.out W).mono (by rintro e w' ⟨rfl, hb⟩; exact ⟨rfl, CB.trans hW hb⟩) | exact s5.mono (by rintro e w' ⟨rfl, rfl⟩; exact ⟨rfl, hW⟩) | exact (HFT.out W).mono (by rintro e w' ⟨rfl, rfl⟩; exact ⟨rfl, hW⟩)); go_big_quiet_on))))
                refine wpQuiet_nil ?_
                intro W hW
                have HB6 := hide (HBV.out.trans (hW.mono HBV.out.size))
                have HX6 := hide ((hW.block _ (heap_lt HXV.out)).trans HXV.out)
                have HY6 := hide ((hW.block _ (heap_lt HYV.out)).trans HYV.out)
                have y0 := cell_bk (j := 0) HX6.out rfl
                have y1 := cell_bk (j := 1) HX6.out rfl
                have y2 := cell_bk (j := 2) HX6.out rfl
                have y3 := cell_bk (j := 3) HX6.out rfl
                have y4 := cell_bk (j := 4) HX6.out rfl
                simp only [List.getElem_toArray, List.getElem_cons_zero, List.getElem_cons_succ] at y0 y1 y2 y3 y4
                have f0 := froz_bk HX6.out 0
                have f1 := froz_bk HX6.out 1
                have f2 := froz_bk HX6.out 2
                have f3 := froz_bk HX6.out 3
                have f4 := froz_bk HX6.out 4
                clear HQ HFT HXV HYV HBV hW
                go_wp2
                (try simp only [Exit.inBlock, Exit.then])
                refine bodyPost_ret (resS2 rfl _ _ w.heap.size #[.int .u64 0, .int .i64 0, .int .u64 0, .int .i64 0, .int .i64 0] (blk5 HX6.out _ _ _ _ _) rfl rfl) rfl ?_
                exact ⟨by rw [HZ.out.1, HZ.out.2]; rfl, below5 HB6.out (Nat.le_refl _) _ _ _ _ _⟩
            · have eF : fitsB jn n = false := decide_eq_false hF
              rw [eF] at HFT
              have HZ := hide (HZ2.out (by rw [HFE.out]; exact decide_eq_false (fun h => hF ⟨h.2.1, h.2.2.1⟩)))
              clear HZ1 HZ2 HFE eF hF hM
              refine wp_region_quiet_C (C := CB V) (by kernel_rfl) (by kernel_rfl) (show Below _ _ _ from (Below.refl _ V).drew) ?_
              repeat (first | go_big_quiet_skip | (go_big_quiet_want; go_big_quiet_op; (first | go_big_quiet_on | (refine ⟨_, fun _ => rfl, ?_⟩; go_big_quiet_on) | (refine ⟨_, fun _ _ => rfl, ?_⟩; go_big_quiet_on) | (apply Exists.intro; refine ⟨fun W hW => ?_, ?_⟩; (obtain ⟨r0, r1, r2, r3, r4, s5⟩ := HQ.out W hW; first | (go_simp; with_reducible rfl) | exact (HH.out W).mono (by rintro e w' ⟨rfl, hb⟩; exact ⟨rfl, CB.trans hW hb⟩) | exact s5.mono (by rintro e w' ⟨rfl, rfl⟩; exact ⟨rfl, hW⟩) | exact (HFT.out W).mono (by rintro e w' ⟨rfl, rfl⟩; exact ⟨rfl, hW⟩)); go_big_quiet_on))))
              refine wpQuiet_nil ?_
              intro W hW
              have HB6 := hide (HBV.out.trans (hW.mono HBV.out.size))
              have HX6 := hide ((hW.block _ (heap_lt HXV.out)).trans HXV.out)
              have HY6 := hide ((hW.block _ (heap_lt HYV.out)).trans HYV.out)
              have y0 := cell_bk (j := 0) HX6.out rfl
              have y1 := cell_bk (j := 1) HX6.out rfl
              have y2 := cell_bk (j := 2) HX6.out rfl
              have y3 := cell_bk (j := 3) HX6.out rfl
              have y4 := cell_bk (j := 4) HX6.out rfl
              simp only [List.getElem_toArray, List.getElem_cons_zero, List.getElem_cons_succ] at y0 y1 y2 y3 y4
              have f0 := froz_bk HX6.out 0
              have f1 := froz_bk HX6.out 1
              have f2 := froz_bk HX6.out 2
              have f3 := froz_bk HX6.out 3
              have f4 := froz_bk HX6.out 4
              clear HQ HFT HXV HYV HBV hW
              go_wp2
              (try simp only [Exit.inBlock, Exit.then])
              refine bodyPost_ret (resS2 rfl _ _ w.heap.size #[.int .u64 0, .int .i64 0, .int .u64 0, .int .i64 0, .int .i64 0] (blk5 HX6.out _ _ _ _ _) rfl rfl) rfl ?_
              exact ⟨by rw [HZ.out.1, HZ.out.2]; rfl, below5 HB6.out (Nat.le_refl _) _ _ _ _ _⟩
          · have eM : ((GM : Int) != (k : Int)) = true := by simp; omega
            have HZ := hide (HZ2.out (by rw [HFE.out]; exact decide_eq_false (fun h => hM h.1)))
            clear HZ1 HZ2 HFE hM
            refine wp_region_quiet_C (C := CB V) (by kernel_rfl) (by kernel_rfl) (show Below _ _ _ from (Below.refl _ V).drew) ?_
            repeat (first | go_big_quiet_skip | (go_big_quiet_want; go_big_quiet_op; (first | go_big_quiet_on | (refine ⟨_, fun _ => rfl, ?_⟩; go_big_quiet_on) | (refine ⟨_, fun _ _ => rfl, ?_⟩; go_big_quiet_on) | (apply Exists.intro; refine ⟨fun W hW => ?_, ?_⟩; (obtain ⟨r0, r1, r2, r3, r4, s5⟩ := HQ.out W hW; first | (go_simp; with_reducible rfl) | exact (HH.out W).mono (by rintro e w' ⟨rfl, hb⟩; exact ⟨rfl, CB.trans hW hb⟩) | exact s5.mono (by rintro e w' ⟨rfl, rfl⟩; exact ⟨rfl, hW⟩) | exact (HFT.out W).mono (by rintro e w' ⟨rfl, rfl⟩; exact ⟨rfl, hW⟩)); go_big_quiet_on))))
            refine wpQuiet_nil ?_
            intro W hW
            have HB6 := hide (HBV.out.trans (hW.mono HBV.out.size))
            have HX6 := hide ((hW.block _ (heap_lt HXV.out)).trans HXV.out)
            have HY6 := hide ((hW.block _ (heap_lt HYV.out)).trans HYV.out)
            have y0 := cell_bk (j := 0) HX6.out rfl
            have y1 := cell_bk (j := 1) HX6.out rfl
            have y2 := cell_bk (j := 2) HX6.out rfl
            have y3 := cell_bk (j := 3) HX6.out rfl
            have y4 := cell_bk (j := 4) HX6.out rfl
            simp only [List.getElem_toArray, List.getElem_cons_zero, List.getElem_cons_succ] at y0 y1 y2 y3 y4
            have f0 := froz_bk HX6.out 0
            have f1 := froz_bk HX6.out 1
            have f2 := froz_bk HX6.out 2
            have f3 := froz_bk HX6.out 3
            have f4 := froz_bk HX6.out 4
            clear HQ HFT HXV HYV HBV hW
            go_wp2
            (try simp only [Exit.inBlock, Exit.then])
            refine bodyPost_ret (resS2 rfl _ _ w.heap.size #[.int .u64 0, .int .i64 0, .int .u64 0, .int .i64 0, .int .i64 0] (blk5 HX6.out _ _ _ _ _) rfl rfl) rfl ?_
            exact ⟨by rw [HZ.out.1, HZ.out.2]; rfl, below5 HB6.out (Nat.le_refl _) _ _ _ _ _⟩
      · have eA : decide (2 + jn ≤ root) = false := decide_eq_false hA
        have HP2 : Hid (P = false) := hide (by rw [HP.out]; exact decide_eq_false (fun h => hA h.1))
        go_quiet ((first | (go_at_call 46; exact Calls.quiet_of_same (HF1.out _)) | (go_at_call 40; exact Calls.quiet_of_same (HSC.out _))))
        go_wp2_with fail
        have HBV : Hid (Below w.heap.size w ((w2.alloc (.cells #[.int .u64 (gen : Nat), .int .i64 root, .int .u64 (seq : Nat), .int .i64 jn, .int .i64 live] 24)).drewN nq)) := hide (below_drewN HB2.out nq)
        have HXV : Hid (((w2.alloc (.cells #[.int .u64 (gen : Nat), .int .i64 root, .int .u64 (seq : Nat), .int .i64 jn, .int .i64 live] 24)).drewN nq).heap[w.heap.size]? = some (.cells #[.int .u64 0, .int .i64 0, .int .u64 0, .int .i64 0, .int .i64 0] 24 (0, 0))) := hide HX2.out
        have HYV : Hid (((w2.alloc (.cells #[.int .u64 (gen : Nat), .int .i64 root, .int .u64 (seq : Nat), .int .i64 jn, .int .i64 live] 24)).drewN nq).heap[w2.heap.size]? = some (.cells #[.int .u64 (gen : Nat), .int .i64 root, .int .u64 (seq : Nat), .int .i64 jn, .int .i64 live] 24 (0, 0))) := hide HY2.out
        clear HB2 HX2 HY2 HSC q0 q1 q2 q3 q4 HF1
        generalize hV : (w2.alloc (.cells #[.int .u64 (gen : Nat), .int .i64 root, .int .u64 (seq : Nat), .int .i64 jn, .int .i64 live] 24)).drewN nq = V at *
        clear hV
        have HQ : Hid (∀ W, CB V W → W.cell? ⟨w2.heap.size, 0, none⟩ = some (.int .u64 (gen : Nat)) ∧ W.cell? ⟨w2.heap.size, 1, none⟩ = some (.int .i64 root) ∧ W.cell? ⟨w2.heap.size, 2, none⟩ = some (.int .u64 (seq : Nat)) ∧ W.cell? ⟨w2.heap.size, 3, none⟩ = some (.int .i64 jn) ∧ W.cell? ⟨w2.heap.size, 4, none⟩ = some (.int .i64 live) ∧ Calls Try.prog 40 #[.pointer (some ⟨g, 0, none⟩)] W fun e w' => e = .returned (.int .i64 (n : Nat)) ∧ w' = W) := hide (fun W hW => by
          have hh := (hW.block w2.heap.size (heap_lt HYV.out)).trans HYV.out
          exact ⟨cell_bk hh rfl, cell_bk hh rfl, cell_bk hh rfl, cell_bk hh rfl, cell_bk hh rfl, sectors_any (X := NoX) W g gs b n st (HD.out.below (HBV.out.trans (hW.mono HBV.out.size)))⟩)
        by_cases hM : GM = k
        · have eM : ((GM : Int) != (k : Int)) = false := by simp [hM]
          by_cases hF : 1 ≤ jn ∧ jn ≤ (n : Int) - 34
          · have eF : fitsB jn n = true := decide_eq_true hF
            rw [eF] at HFT
            by_cases hR : root = 0
            · have HZ := hide (HZ1.out (by rw [HFE.out]; exact decide_eq_true ⟨hM, hF.1, hF.2, .inl hR⟩))
              have eR : (root != 0) = false := by simp [hR]
              clear HZ1 HZ2 HFE eF hF hM hR
              refine wp_region_quiet_C (C := CB V) (by kernel_rfl) (by kernel_rfl) (show Below _ _ _ from (Below.refl _ V).drew) ?_
              repeat (first | go_big_quiet_skip | (go_big_quiet_want; go_big_quiet_op; (first | go_big_quiet_on | (refine ⟨_, fun _ => rfl, ?_⟩; go_big_quiet_on) | (refine ⟨_, fun _ _ => rfl, ?_⟩; go_big_quiet_on) | (apply Exists.intro; refine ⟨fun W hW => ?_, ?_⟩; (obtain ⟨r0, r1, r2, r3, r4, s5⟩ := HQ.out W hW; first | (go_simp; with_reducible rfl) | exact (HH.out W).mono (by rintro e w' ⟨rfl, hb⟩; exact ⟨rfl, CB.trans hW hb⟩) | exact s5.mono (by rintro e w' ⟨rfl, rfl⟩; exact ⟨rfl, hW⟩) | exact (HFT.out W).mono (by rintro e w' ⟨rfl, rfl⟩; exact ⟨rfl, hW⟩)); go_big_quiet_on))))
              refine wpQuiet_nil ?_
              intro W hW
              have HB6 := hide (HBV.out.trans (hW.mono HBV.out.size))
              have HX6 := hide ((hW.block _ (heap_lt HXV.out)).trans HXV.out)
              have HY6 := hide ((hW.block _ (heap_lt HYV.out)).trans HYV.out)
              have y0 := cell_bk (j := 0) HX6.out rfl
              have y1 := cell_bk (j := 1) HX6.out rfl
              have y2 := cell_bk (j := 2) HX6.out rfl
              have y3 := cell_bk (j := 3) HX6.out rfl
              have y4 := cell_bk (j := 4) HX6.out rfl
              have p0 := cell_bk (j := 0) HY6.out rfl
              have p1 := cell_bk (j := 1) HY6.out rfl
              have p2 := cell_bk (j := 2) HY6.out rfl
              have p3 := cell_bk (j := 3) HY6.out rfl
              have p4 := cell_bk (j := 4) HY6.out rfl
              simp only [List.getElem_toArray, List.getElem_cons_zero, List.getElem_cons_succ] at y0 y1 y2 y3 y4 p0 p1 p2 p3 p4
              have f0 := froz_bk HX6.out 0
              have f1 := froz_bk HX6.out 1
              have f2 := froz_bk HX6.out 2
              have f3 := froz_bk HX6.out 3
              have f4 := froz_bk HX6.out 4
              clear HQ HFT HXV HYV HBV hW
              go_wp2
              (try simp only [Exit.inBlock, Exit.then])
              refine bodyPost_ret (resS2 rfl _ _ w.heap.size #[.int .u64 (gen : Nat), .int .i64 root, .int .u64 (seq : Nat), .int .i64 jn, .int .i64 live] (blk5 HX6.out _ _ _ _ _) rfl rfl) rfl ?_
              exact ⟨by rw [HZ.out.1, HZ.out.2]; rfl, below5 HB6.out (Nat.le_refl _) _ _ _ _ _⟩
            · have eR : (root != 0) = true := by simpa using hR
              have HZ := hide (HZ2.out (by rw [HFE.out]; exact decide_eq_false (fun h => by have := h.2.2.2; omega)))
              clear HZ1 HZ2 HFE eF hF hM hR
              refine wp_region_quiet_C (C := CB V) (by kernel_rfl) (by kernel_rfl) (show Below _ _ _ from (Below.refl _ V).drew) ?_
              repeat (first | go_big_quiet_skip | (go_big_quiet_want; go_big_quiet_op; (first | go_big_quiet_on | (refine ⟨_, fun _ => rfl, ?_⟩; go_big_quiet_on) | (refine ⟨_, fun _ _ => rfl, ?_⟩; go_big_quiet_on) | (apply Exists.intro; refine ⟨fun W hW => ?_, ?_⟩; (obtain ⟨r0, r1, r2, r3, r4, s5⟩ := HQ.out W hW; first | (go_simp; with_reducible rfl) | exact (HH.out W).mono (by rintro e w' ⟨rfl, hb⟩; exact ⟨rfl, CB.trans hW hb⟩) | exact s5.mono (by rintro e w' ⟨rfl, rfl⟩; exact ⟨rfl, hW⟩) | exact (HFT.out W).mono (by rintro e w' ⟨rfl, rfl⟩; exact ⟨rfl, hW⟩)); go_big_quiet_on))))
              refine wpQuiet_nil ?_
              intro W hW
              have HB6 := hide (HBV.out.trans (hW.mono HBV.out.size))
              have HX6 := hide ((hW.block _ (heap_lt HXV.out)).trans HXV.out)
              have HY6 := hide ((hW.block _ (heap_lt HYV.out)).trans HYV.out)
              have y0 := cell_bk (j := 0) HX6.out rfl
              have y1 := cell_bk (j := 1) HX6.out rfl
              have y2 := cell_bk (j := 2) HX6.out rfl
              have y3 := cell_bk (j := 3) HX6.out rfl
              have y4 := cell_bk (j := 4) HX6.out rfl
              simp only [List.getElem_toArray, List.getElem_cons_zero, List.getElem_cons_succ] at y0 y1 y2 y3 y4
              have f0 := froz_bk HX6.out 0
              have f1 := froz_bk HX6.out 1
              have f2 := froz_bk HX6.out 2
              have f3 := froz_bk HX6.out 3
              have f4 := froz_bk HX6.out 4
              clear HQ HFT HXV HYV HBV hW
              go_wp2
              (try simp only [Exit.inBlock, Exit.then])
              refine bodyPost_ret (resS2 rfl _ _ w.heap.size #[.int .u64 0, .int .i64 0, .int .u64 0, .int .i64 0, .int .i64 0] (blk5 HX6.out _ _ _ _ _) rfl rfl) rfl ?_
              exact ⟨by rw [HZ.out.1, HZ.out.2]; rfl, below5 HB6.out (Nat.le_refl _) _ _ _ _ _⟩
          · have eF : fitsB jn n = false := decide_eq_false hF
            rw [eF] at HFT
            have HZ := hide (HZ2.out (by rw [HFE.out]; exact decide_eq_false (fun h => hF ⟨h.2.1, h.2.2.1⟩)))
            clear HZ1 HZ2 HFE eF hF hM
            refine wp_region_quiet_C (C := CB V) (by kernel_rfl) (by kernel_rfl) (show Below _ _ _ from (Below.refl _ V).drew) ?_
            repeat (first | go_big_quiet_skip | (go_big_quiet_want; go_big_quiet_op; (first | go_big_quiet_on | (refine ⟨_, fun _ => rfl, ?_⟩; go_big_quiet_on) | (refine ⟨_, fun _ _ => rfl, ?_⟩; go_big_quiet_on) | (apply Exists.intro; refine ⟨fun W hW => ?_, ?_⟩; (obtain ⟨r0, r1, r2, r3, r4, s5⟩ := HQ.out W hW; first | (go_simp; with_reducible rfl) | exact (HH.out W).mono (by rintro e w' ⟨rfl, hb⟩; exact ⟨rfl, CB.trans hW hb⟩) | exact s5.mono (by rintro e w' ⟨rfl, rfl⟩; exact ⟨rfl, hW⟩) | exact (HFT.out W).mono (by rintro e w' ⟨rfl, rfl⟩; exact ⟨rfl, hW⟩)); go_big_quiet_on))))
            refine wpQuiet_nil ?_
            intro W hW
            have HB6 := hide (HBV.out.trans (hW.mono HBV.out.size))
            have HX6 := hide ((hW.block _ (heap_lt HXV.out)).trans HXV.out)
            have HY6 := hide ((hW.block _ (heap_lt HYV.out)).trans HYV.out)
            have y0 := cell_bk (j := 0) HX6.out rfl
            have y1 := cell_bk (j := 1) HX6.out rfl
            have y2 := cell_bk (j := 2) HX6.out rfl
            have y3 := cell_bk (j := 3) HX6.out rfl
            have y4 := cell_bk (j := 4) HX6.out rfl
            simp only [List.getElem_toArray, List.getElem_cons_zero, List.getElem_cons_succ] at y0 y1 y2 y3 y4
            have f0 := froz_bk HX6.out 0
            have f1 := froz_bk HX6.out 1
            have f2 := froz_bk HX6.out 2
            have f3 := froz_bk HX6.out 3
            have f4 := froz_bk HX6.out 4
            clear HQ HFT HXV HYV HBV hW
            go_wp2
            (try simp only [Exit.inBlock, Exit.then])
            refine bodyPost_ret (resS2 rfl _ _ w.heap.size #[.int .u64 0, .int .i64 0, .int .u64 0, .int .i64 0, .int .i64 0] (blk5 HX6.out _ _ _ _ _) rfl rfl) rfl ?_
            exact ⟨by rw [HZ.out.1, HZ.out.2]; rfl, below5 HB6.out (Nat.le_refl _) _ _ _ _ _⟩
        · have eM : ((GM : Int) != (k : Int)) = true := by simp; omega
          have HZ := hide (HZ2.out (by rw [HFE.out]; exact decide_eq_false (fun h => hM h.1)))
          clear HZ1 HZ2 HFE hM
          refine wp_region_quiet_C (C := CB V) (by kernel_rfl) (by kernel_rfl) (show Below _ _ _ from (Below.refl _ V).drew) ?_
          repeat (first | go_big_quiet_skip | (go_big_quiet_want; go_big_quiet_op; (first | go_big_quiet_on | (refine ⟨_, fun _ => rfl, ?_⟩; go_big_quiet_on) | (refine ⟨_, fun _ _ => rfl, ?_⟩; go_big_quiet_on) | (apply Exists.intro; refine ⟨fun W hW => ?_, ?_⟩; (obtain ⟨r0, r1, r2, r3, r4, s5⟩ := HQ.out W hW; first | (go_simp; with_reducible rfl) | exact (HH.out W).mono (by rintro e w' ⟨rfl, hb⟩; exact ⟨rfl, CB.trans hW hb⟩) | exact s5.mono (by rintro e w' ⟨rfl, rfl⟩; exact ⟨rfl, hW⟩) | exact (HFT.out W).mono (by rintro e w' ⟨rfl, rfl⟩; exact ⟨rfl, hW⟩)); go_big_quiet_on))))
          refine wpQuiet_nil ?_
          intro W hW
          have HB6 := hide (HBV.out.trans (hW.mono HBV.out.size))
          have HX6 := hide ((hW.block _ (heap_lt HXV.out)).trans HXV.out)
          have HY6 := hide ((hW.block _ (heap_lt HYV.out)).trans HYV.out)
          have y0 := cell_bk (j := 0) HX6.out rfl
          have y1 := cell_bk (j := 1) HX6.out rfl
          have y2 := cell_bk (j := 2) HX6.out rfl
          have y3 := cell_bk (j := 3) HX6.out rfl
          have y4 := cell_bk (j := 4) HX6.out rfl
          simp only [List.getElem_toArray, List.getElem_cons_zero, List.getElem_cons_succ] at y0 y1 y2 y3 y4
          have f0 := froz_bk HX6.out 0
          have f1 := froz_bk HX6.out 1
          have f2 := froz_bk HX6.out 2
          have f3 := froz_bk HX6.out 3
          have f4 := froz_bk HX6.out 4
          clear HQ HFT HXV HYV HBV hW
          go_wp2
          (try simp only [Exit.inBlock, Exit.then])
          refine bodyPost_ret (resS2 rfl _ _ w.heap.size #[.int .u64 0, .int .i64 0, .int .u64 0, .int .i64 0, .int .i64 0] (blk5 HX6.out _ _ _ _ _) rfl rfl) rfl ?_
          exact ⟨by rw [HZ.out.1, HZ.out.2]; rfl, below5 HB6.out (Nat.le_refl _) _ _ _ _ _⟩
  · have e1 : (RE != 0) = true := by simpa using hr
    have HZ : Hid (SE = RE ∧ SS = sup0) := hide ⟨by rw [HE.out, if_pos hr], by rw [HS.out, if_pos hr]⟩
    clear HE HS hr
    go_enter Try.func64, Try.ntmps64
    go_wp2_with fail
    (try go_at_call 114)
    refine HRD.out.mono ?_
    rintro e w1 ⟨a, len, cap, rfl, hB, hb1⟩
    have HB1 := hide (HB0.out.trans (hb1.mono HB0.out.size))
    have HX1 := hide ((hb1.block _ (heap_lt HX.out)).trans HX.out)
    clear hB hb1 HRD HB0 HX
    have y0 := cell_bk (j := 0) HX1.out rfl
    have y1 := cell_bk (j := 1) HX1.out rfl
    have y2 := cell_bk (j := 2) HX1.out rfl
    have y3 := cell_bk (j := 3) HX1.out rfl
    have y4 := cell_bk (j := 4) HX1.out rfl
    simp only [List.getElem_toArray, List.getElem_cons_zero, List.getElem_cons_succ] at y0 y1 y2 y3 y4
    have f0 := froz_bk HX1.out 0
    have f1 := froz_bk HX1.out 1
    have f2 := froz_bk HX1.out 2
    have f3 := froz_bk HX1.out 3
    have f4 := froz_bk HX1.out 4
    go_wp2
    (try simp only [Exit.inBlock, Exit.then])
    refine bodyPost_ret (resS2 rfl _ _ w.heap.size #[.int .u64 0, .int .i64 0, .int .u64 0, .int .i64 0, .int .i64 0] (blk5 HX1.out _ _ _ _ _) rfl rfl) rfl ?_
    exact ⟨by rw [HZ.out.1, HZ.out.2]; rfl, below5 HB1.out (Nat.le_refl _) _ _ _ _ _⟩
end Go.Proofs.Ytecmfpgccmmlpaa

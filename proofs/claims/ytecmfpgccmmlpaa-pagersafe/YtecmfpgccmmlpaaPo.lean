/- Open -/
import Derived.Test.YtecmfpgccmmlpaaPm
import Derived.Test.YtecmfpgccmmlpaaPe
import Derived.Deep.RegionHeld3
import Derived.Deep.DrawnRows
import Derived.Deep.QuietTactic
import Derived.BigQuiet
namespace Go.Proofs.Ytecmfpgccmmlpaa
open Go.RowKit
set_option maxRecDepth 100000
set_option linter.unusedVariables false
set_option linter.unusedSimpArgs false
theorem Try.info83 : (Try.prog.info? 83).map (fun i => (i.zero, i.size, i.bytes)) = some (some (.int .u8 0), 1, 1) := by kernel_rfl
theorem run_mk83 (W : World) (n : Nat) (hb : n ≤ 281474976710656) :
    (Instr.makeSlice 79 (.int .i64 (n : Int)) (.int .i64 (n : Int))).run Try.prog W = .ok (.slice (some ⟨W.heap.size, 0, none⟩) n n) (W.alloc (.cells (zeros n).toArray 83)) := by
  obtain ⟨i0, hi, hz0, hz1, hz2⟩ := info_parts Try.info83
  have hr := run_make (P := Try.prog) W 79 83 i0 _ Try.underlying79 hi hz0 .i64 .i64 (n : Int) (n : Int) (by omega) (by omega) (by rw [hz2]; omega) (by omega)
  rw [hr, hz1]
  simp only [Int.toNat_natCast, Nat.mul_one]
  rw [show (Value.int IntKind.u8 0).cells = #[Value.int .u8 0] from rfl, zeros_made]
/-- what Open makes of a disk -/
def St.opn (n : Nat) (st : St) : Pg := ⟨st.cntS n, List.replicate (n - (2 + (st.cntS n).jn.toNat)) 0, false⟩
theorem cnt_good {n : Nat} {st : St} (h : st.cntE n = 0) : (st.cntS n).may = true ∧ 1 ≤ (st.cntS n).jn ∧ (st.cntS n).jn ≤ (n : Int) - 34 := by
  have key : ∀ k, st.fnd n k = sup0 ∨ ((st.fnd n k).may = true ∧ ∃ j, (st.fnd n k).fits n j = true) := by
    intro k
    induction k with
    | zero => exact .inl rfl
    | succ k ih =>
      rw [St.fnd]
      split
      · rename_i hc
        have := sAtS_gen hc.1
        exact .inr ⟨this.1, k, this.2.1⟩
      · exact ih
  have hS : st.cntS n = st.fnd n 2 := by rw [St.cntS, if_pos h]
  have hg : ¬ (st.fnd n 2).gen = 0 := by
    intro hg
    unfold St.cntE at h
    split at h
    · cases h
    · cases h
  rw [hS]
  rcases key 2 with h0 | ⟨h1, j, h2⟩
  · rw [h0] at hg; exact absurd rfl hg
  · have := Sup.of_fits h2
    exact ⟨h1, this.2.1, this.2.2.1⟩
theorem open_nil (w : World) : Calls Try.prog 16 #[.pointer none] w fun e w' => e = .returned (.tuple #[.pointer none, .int .i64 1]) ∧ w' = w := by
  go_enter Try.func16, Try.ntmps16
  go_wp2
  go_ret2
  exact ⟨rfl, rfl⟩
attribute [local go_sem ↓] Go.wp_at_zero Go.wp_at_succ
set_option maxHeartbeats 1000000 in
theorem open_any (w : World) (g gs b n : Nat) (st : St) (h : IsD NoX w g gs b n st) : Calls Try.prog 16 #[.pointer (some ⟨g, 0, none⟩)] w fun e w' => ((st.cntE n = 0 ∧ ∃ gp gq, e = .returned (.tuple #[.pointer (some ⟨gp, 0, none⟩), .int .i64 0]) ∧ IsP w' gp gq g n (st.opn n) ∧ w.heap.size ≤ gp ∧ w.heap.size ≤ gq) ∨ (st.cntE n ≠ 0 ∧ e = .returned (.tuple #[.pointer none, .int .i64 (st.cntE n)]))) ∧ Below w.heap.size w w' := by
  have HC := hide (counts_any w g gs b n st h)
  have HD := hide h
  by_cases hE : st.cntE n = 0
  · obtain ⟨hm, hj1, hj2⟩ := cnt_good hE
    have hn := h.n1
    have HO : Hid (st.opn n = ⟨st.cntS n, List.replicate (n - (2 + (st.cntS n).jn.toNat)) 0, false⟩) := hide rfl
    have HM := hide hm
    rw [hE] at HC ⊢
    generalize st.opn n = OP at *
    generalize st.cntS n = CS at *
    have hjn := Sup.of_may hm
    obtain ⟨gen, root, seq, jn, live⟩ := CS
    unfold supV supC at HC
    dsimp only at HC hj1 hj2 hjn HO
    obtain ⟨L, hL⟩ : ∃ x, n - (2 + jn.toNat) = x := ⟨_, rfl⟩
    rw [hL] at HO
    have hLn : (n : Int) - (2 + jn) = (L : Int) := by omega
    have hw : IntKind.i64.wrap ((n : Int) - (2 + jn)) = (L : Int) := by rw [hLn, IntKind.wrap_i64]; omega
    have hL0 : 0 < L := by omega
    have hL1 : L ≤ 1024 := by omega
    have HF := hide (fun W => first_any jn (by omega) (by omega) W)
    have HTOT : Hid (2 + jn + (L : Int) = n) := hide (by omega)
    clear h hE hm hjn hLn hL
    go_enter Try.func16, Try.ntmps16
    go_wp2_with fail
    refine HC.out.mono ?_
    rintro e w1 ⟨rfl, hb1⟩
    have HB2 : Hid (Below w.heap.size w (w1.alloc (.cells #[.int .u64 (gen : Nat), .int .i64 root, .int .u64 (seq : Nat), .int .i64 jn, .int .i64 live] 24))) := hide (hb1.alloc hb1.size _)
    have HN2 : Hid ((w1.alloc (.cells #[.int .u64 (gen : Nat), .int .i64 root, .int .u64 (seq : Nat), .int .i64 jn, .int .i64 live] 24)).heap[w1.heap.size]? = some (.cells #[.int .u64 (gen : Nat), .int .i64 root, .int .u64 (seq : Nat), .int .i64 jn, .int .i64 live] 24 (0, 0))) := hide (heap_alloc_new w1 _)
    obtain ⟨B0, hB0⟩ : ∃ B, B = w1.heap.size := ⟨_, rfl⟩
    have HB0 : Hid (w.heap.size ≤ B0) := hide (by rw [hB0]; exact hb1.size)
    clear hb1 HC
    go_wp2_with fail
    generalize (w1.alloc (.cells #[.int .u64 (gen : Nat), .int .i64 root, .int .u64 (seq : Nat), .int .i64 jn, .int .i64 live] 24)) = W2 at *
    rw [← hB0] at HN2 ⊢
    clear hB0
    have HSC := hide (fun m => sectors_any (X := NoX) (W2.drewN m) g gs b n st (HD.out.below (below_drewN HB2.out m)))
    have q3 : W2.cell? ⟨B0, 3, none⟩ = some (.int .i64 jn) := cell_bk HN2.out rfl
    go_quiet ((first | (go_at_call 46; exact Calls.quiet_of_same (HF.out _)) | (go_at_call 40; exact Calls.quiet_of_same (HSC.out _))))
    have HB3 := hide (below_drewN HB2.out nq)
    have HN3 : Hid ((W2.drewN nq).heap[B0]? = some (.cells #[.int .u64 (gen : Nat), .int .i64 root, .int .u64 (seq : Nat), .int .i64 jn, .int .i64 live] 24 (0, 0))) := hide HN2.out
    clear HSC HB2 HN2 q3 HF hw
    generalize W2.drewN nq = W3 at *
    have HK : Hid (∀ W, Below W3.heap.size W3 W → W.cell? ⟨B0, 0, none⟩ = some (.int .u64 (gen : Nat)) ∧ W.cell? ⟨B0, 1, none⟩ = some (.int .i64 root) ∧ W.cell? ⟨B0, 2, none⟩ = some (.int .u64 (seq : Nat)) ∧ W.cell? ⟨B0, 3, none⟩ = some (.int .i64 jn) ∧ W.cell? ⟨B0, 4, none⟩ = some (.int .i64 live)) := hide (fun W hW => by
      have hh := (hW.block B0 (heap_lt HN3.out)).trans HN3.out
      exact ⟨cell_bk hh rfl, cell_bk hh rfl, cell_bk hh rfl, cell_bk hh rfl, cell_bk hh rfl⟩)
    have hmk : ∀ W : World, (Instr.makeSlice 79 (.int .i64 (L : Int)) (.int .i64 (L : Int))).run Try.prog W = .ok (.slice (some ⟨W.heap.size, 0, none⟩) L L) (W.alloc (.cells (zeros L).toArray 83)) := fun W => run_mk83 W L (by omega)
    obtain ⟨r0, r1, r2, r3, r4⟩ := HK.out _ (Below.refl _ W3).drew
    go_wp2_with fail
    go_region_held3 (fun W : World => W.cell? ⟨B0, 0, none⟩ = some (.int .u64 (gen : Nat)) ∧ W.cell? ⟨B0, 1, none⟩ = some (.int .i64 root) ∧ W.cell? ⟨B0, 2, none⟩ = some (.int .u64 (seq : Nat)) ∧ W.cell? ⟨B0, 3, none⟩ = some (.int .i64 jn) ∧ W.cell? ⟨B0, 4, none⟩ = some (.int .i64 live)) (first | with_reducible exact HK.out _ (Below.refl _ _).drew | with_reducible exact HK.out _ (((Below.refl _ _).alloc (Nat.le_refl _) _).drew) | with_reducible exact HK.out _ ((((Below.refl _ _).alloc (Nat.le_refl _) _).alloc (by simp) _).drew)) (fail)
    all_goals
      have hb4 : Below W3.heap.size W3 ((W3.alloc (.cells (zeros L).toArray 83)).alloc (.cells #[.iface 34 (.pointer (some ⟨g, 0, none⟩)), .int .u64 (gen : Nat), .int .i64 root, .int .u64 (seq : Nat), .int .i64 jn, .int .i64 live, .slice (some ⟨W3.heap.size, 0, none⟩) L L, .bool false] 81)).drew := (((Below.refl _ _).alloc (Nat.le_refl _) _).alloc (by simp) _).drew
      have HB4 := hide (HB3.out.trans (hb4.mono HB3.out.size))
      have hsz : (W3.alloc (.cells (zeros L).toArray 83)).heap.size = W3.heap.size + 1 := by simp
      have hp := heap_alloc_new (W3.alloc (.cells (zeros L).toArray 83)) (.cells #[.iface 34 (.pointer (some ⟨g, 0, none⟩)), .int .u64 (gen : Nat), .int .i64 root, .int .u64 (seq : Nat), .int .i64 jn, .int .i64 live, .slice (some ⟨W3.heap.size, 0, none⟩) L L, .bool false] 81)
      rw [hsz] at hp
      have hr := heap_alloc_new W3 (.cells (zeros L).toArray 83)
      have hr2 := ((((Below.refl (W3.heap.size + 1) (W3.alloc (.cells (zeros L).toArray 83))).alloc (by simp) (.cells #[.iface 34 (.pointer (some ⟨g, 0, none⟩)), .int .u64 (gen : Nat), .int .i64 root, .int .u64 (seq : Nat), .int .i64 jn, .int .i64 live, .slice (some ⟨W3.heap.size, 0, none⟩) L L, .bool false] 81)).drew).block W3.heap.size (by omega)).trans hr
      have HIP : Hid (IsP ((W3.alloc (.cells (zeros L).toArray 83)).alloc (.cells #[.iface 34 (.pointer (some ⟨g, 0, none⟩)), .int .u64 (gen : Nat), .int .i64 root, .int .u64 (seq : Nat), .int .i64 jn, .int .i64 live, .slice (some ⟨W3.heap.size, 0, none⟩) L L, .bool false] 81)).drew (W3.heap.size + 1) W3.heap.size g n OP) := hide (by
        rw [HO.out]
        refine ⟨?_, ⟨_, hr2, ?_⟩, HM.out, ?_, hn, ?_, ?_⟩
        · simp only [List.length_replicate]
          exact hp
        · rw [List.toList_toArray]; exact (bv_zeros L).symm
        · simp only [List.length_replicate]
          exact HTOT.out
        · intro x hx
          rw [List.eq_of_mem_replicate hx]
          decide
        · simp only [List.length_replicate]
          exact hL0)
      have HSZ := hide HB3.out.size
      clear hb4 hp hr hr2 hsz r0 r1 r2 r3 r4 HK
      go_wp2
      go_ret2
      exact ⟨.inl ⟨trivial, _, _, rfl, HIP.out, Nat.le_succ_of_le HSZ.out, HSZ.out⟩, HB4.out⟩
  · have e1 : (st.cntE n != 0) = true := by simpa using hE
    have HZ : Hid (st.cntE n ≠ 0) := hide hE
    have HS : Hid (st.cntS n = sup0) := hide (by rw [St.cntS, if_neg hE])
    rw [HS.out] at HC
    unfold supV supC sup0 at HC
    clear hE h HS
    generalize st.cntE n = CE at *
    go_enter Try.func16, Try.ntmps16
    go_wp2_with fail
    refine HC.out.mono ?_
    rintro e w1 ⟨rfl, hb1⟩
    have HB2 : Hid (Below w.heap.size w (w1.alloc (.cells #[.int .u64 0, .int .i64 0, .int .u64 0, .int .i64 0, .int .i64 0] 24))) := hide (hb1.alloc hb1.size _)
    clear hb1 HC
    go_wp2
    go_ret2
    exact ⟨.inr ⟨HZ.out, rfl⟩, HB2.out⟩
end Go.Proofs.Ytecmfpgccmmlpaa

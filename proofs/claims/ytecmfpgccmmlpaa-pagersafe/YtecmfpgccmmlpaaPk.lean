/- Format -/
import Derived.Test.YtecmfpgccmmlpaaPj
namespace Go.Proofs.Ytecmfpgccmmlpaa
open Go.RowKit
set_option maxRecDepth 100000
set_option linter.unusedVariables false
set_option linter.unusedSimpArgs false
/-- a new disk's superblock -/
def fstS (j : Int) : Sup := ⟨1, 0, 1, j, 0⟩
def St.fmt (n : Nat) (j : Int) (st : St) : St × Int := if fitsB j n = true then seq3 st (St.write n 1 (supL (fstS j))) (St.write n 0 []) St.sync else (st, 2)
theorem fst_may {j : Int} {n : Nat} (h : fitsB j n = true) (hn : n ≤ 1024) : (fstS j).may = true := by
  have : 1 ≤ j ∧ j ≤ (n : Int) - 34 := of_decide_eq_true h
  exact Sup.is_may (by simp [fstS]; omega)
theorem format_nil (j : Int) (w : World) : Calls Try.prog 15 #[.pointer none, .int .i64 j] w fun e w' => e = .returned (.int .i64 1) ∧ w' = w := by
  go_enter Try.func15, Try.ntmps15
  go_wp2
  go_ret
  exact ⟨rfl, rfl⟩
theorem write_wr (n : Nat) (i : Int) (l : List Nat) (st : St) : (st.write n i l).1.wr ≤ st.wr + 1 := by
  unfold St.write
  split
  · exact Nat.le_succ _
  · split
    · exact Nat.le_succ _
    · split
      · exact Nat.le_succ _
      · split
        · exact Nat.le_add_right _ _
        · rw [goes_wr]; exact Nat.le_refl _
theorem fmt_call (w1 w2 : World) (g gs b n : Nat) (st : St) (hd : IsD NoX w1 g gs b n st) (hb : Below w1.heap.size w1 w2) (q : Nat) (l : List Nat) (hB : IsB w2 (some ⟨q, 0, none⟩) 4096 4096 l) (hw : st.wr < 4611686018427387900) :
    Calls Try.prog 42 #[.slice (some ⟨w2.heap.size + 1 + 1, 0, none⟩) 3 3] (((w2.alloc (.cells #[.iface 34 (.pointer (some ⟨g, 0, none⟩)), .int .i64 1, .slice (some ⟨q, 0, none⟩) 4096 4096] 73)).alloc (.cells #[.iface 34 (.pointer (some ⟨g, 0, none⟩)), .int .i64 0, .slice none 0 0] 73)).alloc (.cells #[.func (.func 43) #[.agg #[.iface 34 (.pointer (some ⟨g, 0, none⟩)), .int .i64 1, .slice (some ⟨q, 0, none⟩) 4096 4096]] #[], .func (.func 43) #[.agg #[.iface 34 (.pointer (some ⟨g, 0, none⟩)), .int .i64 0, .slice none 0 0]] #[], .func (.func 44) #[.pointer (some ⟨g, 0, none⟩)] #[]] 43))
      fun e w' => e = .returned (.int .i64 (seq3 st (St.write n 1 l) (St.write n 0 []) St.sync).2) ∧ IsD NoX w' g gs b n (seq3 st (St.write n 1 l) (St.write n 0 []) St.sync).1 ∧ Frm (SD g gs b) w1 w' := by
  generalize hV : (((w2.alloc (.cells #[.iface 34 (.pointer (some ⟨g, 0, none⟩)), .int .i64 1, .slice (some ⟨q, 0, none⟩) 4096 4096] 73)).alloc (.cells #[.iface 34 (.pointer (some ⟨g, 0, none⟩)), .int .i64 0, .slice none 0 0] 73)).alloc (.cells #[.func (.func 43) #[.agg #[.iface 34 (.pointer (some ⟨g, 0, none⟩)), .int .i64 1, .slice (some ⟨q, 0, none⟩) 4096 4096]] #[], .func (.func 43) #[.agg #[.iface 34 (.pointer (some ⟨g, 0, none⟩)), .int .i64 0, .slice none 0 0]] #[], .func (.func 44) #[.pointer (some ⟨g, 0, none⟩)] #[]] 43)) = V
  have hbV : Below w2.heap.size w2 V := by
    rw [← hV]
    exact (((Below.refl _ w2).alloc (Nat.le_refl _) _).alloc (by simp) _).alloc (by simp; omega) _
  have hc : V.heap[w2.heap.size + 1 + 1]? = some (.cells #[.func (.func 43) #[.agg (blkC g 1 (some ⟨q, 0, none⟩) 4096 4096)] #[], .func (.func 43) #[.agg (blkC g 0 none 0 0)] #[], .func (.func 44) #[.pointer (some ⟨g, 0, none⟩)] #[]] 43 (0, 0)) := by
    rw [← hV]
    have := heap_alloc_new ((w2.alloc (.cells #[.iface 34 (.pointer (some ⟨g, 0, none⟩)), .int .i64 1, .slice (some ⟨q, 0, none⟩) 4096 4096] 73)).alloc (.cells #[.iface 34 (.pointer (some ⟨g, 0, none⟩)), .int .i64 0, .slice none 0 0] 73)) (.cells #[.func (.func 43) #[.agg #[.iface 34 (.pointer (some ⟨g, 0, none⟩)), .int .i64 1, .slice (some ⟨q, 0, none⟩) 4096 4096]] #[], .func (.func 43) #[.agg #[.iface 34 (.pointer (some ⟨g, 0, none⟩)), .int .i64 0, .slice none 0 0]] #[], .func (.func 44) #[.pointer (some ⟨g, 0, none⟩)] #[]] 43)
    rwa [show ((w2.alloc (.cells #[.iface 34 (.pointer (some ⟨g, 0, none⟩)), .int .i64 1, .slice (some ⟨q, 0, none⟩) 4096 4096] 73)).alloc (.cells #[.iface 34 (.pointer (some ⟨g, 0, none⟩)), .int .i64 0, .slice none 0 0] 73)).heap.size = w2.heap.size + 1 + 1 by simp] at this
  clear hV
  have hb2 := hb.trans (hbV.mono hb.size)
  have hdV := hd.below hb2
  have hBV := hB.below hbV
  have hw1 := write_wr n 1 l st
  refine (inTurnF V g gs b n st hdV 1 _ 4096 4096 _ (St.write n 1 l) (St.write n 0 []) St.sync hc ?_ ?_ ?_).mono ?_
  · rintro W s hF hI rfl
    exact bwrite_any W g gs b n _ hI 1 _ 4096 4096 l (hBV.frm hdV hF) (by omega)
  · rintro W s hF hI rfl
    exact bwrite_any W g gs b n _ hI 0 none 0 0 [] (isB_nil W) (by omega)
  · rintro W s hF hI rfl
    exact sync_any W g gs b n _ hI
  · rintro e W ⟨h1, h2, h3⟩
    exact ⟨h1, h2, (Frm.below hb2).trans h3⟩
set_option maxHeartbeats 1000000 in
theorem format_any (w : World) (g gs b n : Nat) (st : St) (h : IsD NoX w g gs b n st) (j : Int) (hw : st.wr < 4611686018427387900) :
    Calls Try.prog 15 #[.pointer (some ⟨g, 0, none⟩), .int .i64 j] w fun e w' => e = .returned (.int .i64 (st.fmt n j).2) ∧ IsD NoX w' g gs b n (st.fmt n j).1 ∧ Frm (SD g gs b) w w' := by
  have HS := hide (sectors_any (X := NoX) w g gs b n st h)
  have HFI := hide (fits_any j n h.n1 w)
  have HT : Hid (st.fmt n j = if fitsB j n = true then seq3 st (St.write n 1 (supL (fstS j))) (St.write n 0 []) St.sync else (st, 2)) := hide rfl
  have HD := hide h
  by_cases hf : fitsB j n = true
  · have hm := fst_may hf h.n1
    have HBO : Hid (Calls Try.prog 41 #[.iface 34 (.pointer (some ⟨g, 0, none⟩)), .agg #[.int .u64 1, .int .i64 0, .int .u64 1, .int .i64 j, .int .i64 0]] w fun e w' => ∃ q, e = .returned (.tuple #[.agg #[.iface 34 (.pointer (some ⟨g, 0, none⟩)), .int .i64 1, .slice (some ⟨q, 0, none⟩) 4096 4096], .int .i64 0]) ∧ IsB w' (some ⟨q, 0, none⟩) 4096 4096 (supL (fstS j)) ∧ Below w.heap.size w w') := hide (blockOf_ok w g (fstS j) hm)
    have HR : Hid (st.fmt n j = seq3 st (St.write n 1 (supL (fstS j))) (St.write n 0 []) St.sync) := hide (by rw [HT.out, if_pos hf])
    rw [hf] at HFI
    clear HT hf hm h
    generalize st.fmt n j = R at *
    generalize supL (fstS j) = SL at *
    go_enter Try.func15, Try.ntmps15
    go_wp2_with fail
    refine HS.out.mono ?_
    rintro e w1 ⟨rfl, rfl⟩
    go_wp2_with fail
    refine HFI.out.mono ?_
    rintro e w1 ⟨rfl, rfl⟩
    go_wp2_with fail
    refine HBO.out.mono ?_
    rintro e w2 ⟨q, rfl, hB, hb⟩
    have HI := hide hB
    have HB2 := hide hb
    clear hB hb HBO HS HFI
    go_wp2_with fail
    refine (fmt_call w1 w2 g gs b n st HD.out HB2.out q SL HI.out hw).mono ?_
    rintro e w3 ⟨rfl, h1, h2⟩
    have H1 := hide h1
    have H2 := hide h2
    clear h1 h2
    go_wp2
    go_ret
    exact ⟨by rw [HR.out]; rfl, by rw [HR.out]; exact H1.out, H2.out⟩
  · have HR : Hid (st.fmt n j = (st, 2)) := hide (by rw [HT.out, if_neg hf])
    rw [Bool.not_eq_true] at hf
    rw [hf] at HFI
    clear HT hf h
    generalize st.fmt n j = R at *
    go_enter Try.func15, Try.ntmps15
    go_wp2_with fail
    refine HS.out.mono ?_
    rintro e w1 ⟨rfl, rfl⟩
    go_wp2_with fail
    refine HFI.out.mono ?_
    rintro e w1 ⟨rfl, rfl⟩
    go_wp2
    go_ret
    exact ⟨by rw [HR.out]; rfl, by rw [HR.out]; exact HD.out, Frm.refl _ _⟩
end Go.Proofs.Ytecmfpgccmmlpaa

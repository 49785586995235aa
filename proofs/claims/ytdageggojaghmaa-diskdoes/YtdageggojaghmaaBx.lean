/- contracts: Do -/
import Derived.Test.YtdageggojaghmaaAx
namespace Go.Proofs.Ytdageggojaghmaa
open Go.RowKit
variable {X : Nat → Prop}
set_option maxHeartbeats 1000000 in
theorem do_1 (w : World) (g gs b n : Nat) (st : St) (h : IsD X w g gs b n st) (s1 s3 : Int) (a a' : Option Addr) (len cap len' cap' : Nat) (dat : List Nat) (fat : List (Nat × Nat)) (hs3 : s3 ≤ 9223372036854775807) (hB : IsB w a len cap dat) (hF : IsF w a' len' cap' fat) (hw : st.wr < 4611686018427387904) :
    Calls Try.prog 14 #[.pointer (some ⟨g, 0, none⟩), .agg #[.int .u8 1, .int .i64 s1, .slice a len cap, .int .i64 s3, .slice a' len' cap']] w fun e w' => e = .returned (.int .i64 (st.step n ⟨1, s1, dat, s3, fat⟩).2) ∧ IsD X w' g gs b n (st.step n ⟨1, s1, dat, s3, fat⟩).1 ∧ Frm (SD g gs b) w w' := by
  have H := hide h
  have HB := hide hB
  have HF := hide hF
  have HW := hide hw
  have HC := hide hs3
  have HB0 := hide (fun o : Obj => (Below.refl w.heap.size w).alloc (Nat.le_refl _) o)
  clear h hB hF hw hs3
  go_enter Try.func14, Try.ntmps14
  go_wp2_with fail
  generalize hW : w.alloc (Obj.cells #[.int .u8 1, .int .i64 s1, .slice a len cap, .int .i64 s3, .slice a' len' cap'] 35) = W1
  have HB1 : Hid (Below w.heap.size w W1) := hide (by rw [← hW]; exact HB0.out _)
  clear hW HB0
  refine (write_any W1 g gs b n st (H.out.below HB1.out) s1 a len cap dat (HB.out.below HB1.out) HW.out).mono ?_
  rintro e w2 ⟨rfl, hI, hF2⟩
  have HI := hide hI
  have HF2 := hide ((Frm.below (S := SD g gs b) HB1.out).trans hF2)
  clear hI hF2
  go_wp2
  go_ret
  exact ⟨rfl, HI.out, HF2.out⟩
set_option maxHeartbeats 1000000 in
theorem do_2 (w : World) (g gs b n : Nat) (st : St) (h : IsD X w g gs b n st) (s1 s3 : Int) (a a' : Option Addr) (len cap len' cap' : Nat) (dat : List Nat) (fat : List (Nat × Nat)) (hs3 : s3 ≤ 9223372036854775807) (hB : IsB w a len cap dat) (hF : IsF w a' len' cap' fat) (hw : st.wr < 4611686018427387904) :
    Calls Try.prog 14 #[.pointer (some ⟨g, 0, none⟩), .agg #[.int .u8 2, .int .i64 s1, .slice a len cap, .int .i64 s3, .slice a' len' cap']] w fun e w' => e = .returned (.int .i64 (st.step n ⟨2, s1, dat, s3, fat⟩).2) ∧ IsD X w' g gs b n (st.step n ⟨2, s1, dat, s3, fat⟩).1 ∧ Frm (SD g gs b) w w' := by
  have H := hide h
  have HB := hide hB
  have HF := hide hF
  have HW := hide hw
  have HC := hide hs3
  have HB0 := hide (fun o : Obj => (Below.refl w.heap.size w).alloc (Nat.le_refl _) o)
  clear h hB hF hw hs3
  go_enter Try.func14, Try.ntmps14
  go_wp2_with fail
  generalize hW : w.alloc (Obj.cells #[.int .u8 2, .int .i64 s1, .slice a len cap, .int .i64 s3, .slice a' len' cap'] 35) = W1
  have HB1 : Hid (Below w.heap.size w W1) := hide (by rw [← hW]; exact HB0.out _)
  clear hW HB0
  refine (sync_any W1 g gs b n st (H.out.below HB1.out)).mono ?_
  rintro e w2 ⟨rfl, hI, hF2⟩
  have HI := hide hI
  have HF2 := hide ((Frm.below (S := SD g gs b) HB1.out).trans hF2)
  clear hI hF2
  go_wp2
  go_ret
  exact ⟨rfl, HI.out, HF2.out⟩
set_option maxHeartbeats 1000000 in
theorem do_3 (w : World) (g gs b n : Nat) (st : St) (h : IsD X w g gs b n st) (s1 s3 : Int) (a a' : Option Addr) (len cap len' cap' : Nat) (dat : List Nat) (fat : List (Nat × Nat)) (hs3 : s3 ≤ 9223372036854775807) (hB : IsB w a len cap dat) (hF : IsF w a' len' cap' fat) (hw : st.wr < 4611686018427387904) :
    Calls Try.prog 14 #[.pointer (some ⟨g, 0, none⟩), .agg #[.int .u8 3, .int .i64 s1, .slice a len cap, .int .i64 s3, .slice a' len' cap']] w fun e w' => e = .returned (.int .i64 (st.step n ⟨3, s1, dat, s3, fat⟩).2) ∧ IsD X w' g gs b n (st.step n ⟨3, s1, dat, s3, fat⟩).1 ∧ Frm (SD g gs b) w w' := by
  have H := hide h
  have HB := hide hB
  have HF := hide hF
  have HW := hide hw
  have HC := hide hs3
  have HB0 := hide (fun o : Obj => (Below.refl w.heap.size w).alloc (Nat.le_refl _) o)
  clear h hB hF hw hs3
  go_enter Try.func14, Try.ntmps14
  go_wp2_with fail
  generalize hW : w.alloc (Obj.cells #[.int .u8 3, .int .i64 s1, .slice a len cap, .int .i64 s3, .slice a' len' cap'] 35) = W1
  have HB1 : Hid (Below w.heap.size w W1) := hide (by rw [← hW]; exact HB0.out _)
  clear hW HB0
  refine (arm_any W1 g gs b n st (H.out.below HB1.out) s3 HC.out).mono ?_
  rintro e w2 ⟨rfl, hI, hF2⟩
  have HI := hide hI
  have HF2 := hide ((Frm.below (S := SD g gs b) HB1.out).trans hF2)
  clear hI hF2
  go_wp2
  go_ret
  exact ⟨rfl, HI.out, HF2.out⟩
set_option maxHeartbeats 1000000 in
theorem do_4 (w : World) (g gs b n : Nat) (st : St) (h : IsD X w g gs b n st) (s1 s3 : Int) (a a' : Option Addr) (len cap len' cap' : Nat) (dat : List Nat) (fat : List (Nat × Nat)) (hs3 : s3 ≤ 9223372036854775807) (hB : IsB w a len cap dat) (hF : IsF w a' len' cap' fat) (hw : st.wr < 4611686018427387904) :
    Calls Try.prog 14 #[.pointer (some ⟨g, 0, none⟩), .agg #[.int .u8 4, .int .i64 s1, .slice a len cap, .int .i64 s3, .slice a' len' cap']] w fun e w' => e = .returned (.int .i64 (st.step n ⟨4, s1, dat, s3, fat⟩).2) ∧ IsD X w' g gs b n (st.step n ⟨4, s1, dat, s3, fat⟩).1 ∧ Frm (SD g gs b) w w' := by
  have H := hide h
  have HB := hide hB
  have HF := hide hF
  have HW := hide hw
  have HC := hide hs3
  have HB0 := hide (fun o : Obj => (Below.refl w.heap.size w).alloc (Nat.le_refl _) o)
  clear h hB hF hw hs3
  go_enter Try.func14, Try.ntmps14
  go_wp2_with fail
  generalize hW : w.alloc (Obj.cells #[.int .u8 4, .int .i64 s1, .slice a len cap, .int .i64 s3, .slice a' len' cap'] 35) = W1
  have HB1 : Hid (Below w.heap.size w W1) := hide (by rw [← hW]; exact HB0.out _)
  clear hW HB0
  refine (cut_any W1 g gs b n st (H.out.below HB1.out)).mono ?_
  rintro e w2 ⟨rfl, hI, hF2⟩
  have HI := hide hI
  have HF2 := hide ((Frm.below (S := SD g gs b) HB1.out).trans hF2)
  clear hI hF2
  go_wp2
  go_ret
  exact ⟨rfl, HI.out, HF2.out⟩
set_option maxHeartbeats 1000000 in
theorem do_5 (w : World) (g gs b n : Nat) (st : St) (h : IsD X w g gs b n st) (s1 s3 : Int) (a a' : Option Addr) (len cap len' cap' : Nat) (dat : List Nat) (fat : List (Nat × Nat)) (hs3 : s3 ≤ 9223372036854775807) (hB : IsB w a len cap dat) (hF : IsF w a' len' cap' fat) (hw : st.wr < 4611686018427387904) :
    Calls Try.prog 14 #[.pointer (some ⟨g, 0, none⟩), .agg #[.int .u8 5, .int .i64 s1, .slice a len cap, .int .i64 s3, .slice a' len' cap']] w fun e w' => e = .returned (.int .i64 (st.step n ⟨5, s1, dat, s3, fat⟩).2) ∧ IsD X w' g gs b n (st.step n ⟨5, s1, dat, s3, fat⟩).1 ∧ Frm (SD g gs b) w w' := by
  have H := hide h
  have HB := hide hB
  have HF := hide hF
  have HW := hide hw
  have HC := hide hs3
  have HB0 := hide (fun o : Obj => (Below.refl w.heap.size w).alloc (Nat.le_refl _) o)
  clear h hB hF hw hs3
  go_enter Try.func14, Try.ntmps14
  go_wp2_with fail
  generalize hW : w.alloc (Obj.cells #[.int .u8 5, .int .i64 s1, .slice a len cap, .int .i64 s3, .slice a' len' cap'] 35) = W1
  have HB1 : Hid (Below w.heap.size w W1) := hide (by rw [← hW]; exact HB0.out _)
  clear hW HB0
  refine (rest_any W1 g gs b n st (H.out.below HB1.out) a' len' cap' fat (HF.out.below HB1.out)).mono ?_
  rintro e w2 ⟨rfl, hI, hF2⟩
  have HI := hide hI
  have HF2 := hide ((Frm.below (S := SD g gs b) HB1.out).trans hF2)
  clear hI hF2
  go_wp2
  go_ret
  exact ⟨rfl, HI.out, HF2.out⟩
theorem do_no (w : World) (g gs b n : Nat) (st : St) (h : IsD X w g gs b n st) (k : Nat) (c1 c2 c3 c4 : Value) (h1 : k ≠ 1) (h2 : k ≠ 2) (h3 : k ≠ 3) (h4 : k ≠ 4) (h5 : k ≠ 5) :
    Calls Try.prog 14 #[.pointer (some ⟨g, 0, none⟩), .agg #[.int .u8 (k : Nat), c1, c2, c3, c4]] w fun e w' => e = .returned (.int .i64 15) ∧ IsD X w' g gs b n st ∧ Frm (SD g gs b) w w' := by
  have H := hide h
  have HB0 := hide (fun o : Obj => (Below.refl w.heap.size w).alloc (Nat.le_refl _) o)
  have d1 : decide ((k : Int) = 1) = false := decide_eq_false (by omega)
  have e1 : decide (k = 1) = false := decide_eq_false (by omega)
  have d2 : decide ((k : Int) = 2) = false := decide_eq_false (by omega)
  have e2 : decide (k = 2) = false := decide_eq_false (by omega)
  have d3 : decide ((k : Int) = 3) = false := decide_eq_false (by omega)
  have e3 : decide (k = 3) = false := decide_eq_false (by omega)
  have d4 : decide ((k : Int) = 4) = false := decide_eq_false (by omega)
  have e4 : decide (k = 4) = false := decide_eq_false (by omega)
  have d5 : decide ((k : Int) = 5) = false := decide_eq_false (by omega)
  have e5 : decide (k = 5) = false := decide_eq_false (by omega)
  clear h
  go_enter Try.func14, Try.ntmps14
  go_wp2
  go_ret
  exact ⟨rfl, H.out.below (HB0.out _), Frm.below (HB0.out _)⟩
/-- (*Disk).Do -/
theorem do_any (w : World) (g gs b n : Nat) (st : St) (h : IsD X w g gs b n st) (c0 c1 c2 c3 c4 : Value) (s : Stp) (hs : IsS w c0 c1 c2 c3 c4 s) (hw : st.wr < 4611686018427387904) :
    Calls Try.prog 14 #[.pointer (some ⟨g, 0, none⟩), .agg #[c0, c1, c2, c3, c4]] w fun e w' => e = .returned (.int .i64 (st.step n s).2) ∧ IsD X w' g gs b n (st.step n s).1 ∧ Frm (SD g gs b) w w' := by
  obtain ⟨k, s1, dat, s3, fat⟩ := s
  obtain ⟨rfl, rfl, rfl, h5, h6, ⟨a, len, cap, rfl, hB⟩, a', len', cap', rfl, hF⟩ := hs
  by_cases h1 : k = 1
  · subst h1; exact do_1 w g gs b n st h s1 s3 a a' len cap len' cap' dat fat h6 hB hF hw
  by_cases h2 : k = 2
  · subst h2; exact do_2 w g gs b n st h s1 s3 a a' len cap len' cap' dat fat h6 hB hF hw
  by_cases h3 : k = 3
  · subst h3; exact do_3 w g gs b n st h s1 s3 a a' len cap len' cap' dat fat h6 hB hF hw
  by_cases h4 : k = 4
  · subst h4; exact do_4 w g gs b n st h s1 s3 a a' len cap len' cap' dat fat h6 hB hF hw
  by_cases h5 : k = 5
  · subst h5; exact do_5 w g gs b n st h s1 s3 a a' len cap len' cap' dat fat h6 hB hF hw
  have e : st.step n ⟨k, s1, dat, s3, fat⟩ = (st, 15) := by unfold St.step; rw [if_neg h1, if_neg h2, if_neg h3, if_neg h4, if_neg h5]
  rw [e]
  exact do_no w g gs b n st h k _ _ _ _ h1 h2 h3 h4 h5
end Go.Proofs.Ytdageggojaghmaa

/- contracts: call; a fork's steps -/
import Derived.Test.YtdageggojaghmaaF
namespace Go.Proofs.Ytdageggojaghmaa
open Go.RowKit
set_option maxHeartbeats 1000000 in
theorem call_1 (w : World) (g gs b n : Nat) (st : St) (h : IsD w g gs b n st) (s1 s3 : Int) (a a' : Option Addr) (len cap len' cap' : Nat) (dat : List Nat) (fat : List (Nat × Nat)) (hs3 : s3 ≤ 9223372036854775807) (hB : IsB w a len cap dat) (hF : IsF w a' len' cap' fat) (hw : st.wr < 4611686018427387904) :
    Calls Try.prog 16 #[.pointer (some ⟨g, 0, none⟩), .agg #[.int .u8 1, .int .i64 s1, .slice a len cap, .int .i64 s3, .slice a' len' cap']] w fun e w' => e = .returned (.int .i64 (st.step n ⟨1, s1, dat, s3, fat⟩).2) ∧ IsD w' g gs b n (st.step n ⟨1, s1, dat, s3, fat⟩).1 ∧ Frm (SD g gs b) w w' := by
  have H := hide h
  have HB := hide hB
  have HF := hide hF
  have HW := hide hw
  have HC := hide hs3
  have HB0 := hide (fun o : Obj => (Below.refl w.heap.size w).alloc (Nat.le_refl _) o)
  clear h hB hF hw hs3
  go_enter Try.func16, Try.ntmps16
  go_wp2_with fail
  generalize hW : w.alloc (Obj.cells #[.int .u8 1, .int .i64 s1, .slice a len cap, .int .i64 s3, .slice a' len' cap'] 35) = W1
  have HB1 : Hid (Below w.heap.size w W1) := hide (by rw [← hW]; exact HB0.out _)
  clear hW HB0
  refine (write_any W1 g gs b n st (H.out.below HB1.out) s1 a len cap dat (HB.out.below HB1.out) HW.out).mono ?_
  rintro e w2 ⟨rfl, hI, hF2⟩
  have HI := hide hI
  have HF2 := hide ((Frm.below (S := SD g gs b) HB1.out).trans hF2)
  clear hI hF2
  go_wp2
  go_ret
  exact ⟨rfl, HI.out, HF2.out⟩
set_option maxHeartbeats 1000000 in
theorem call_2 (w : World) (g gs b n : Nat) (st : St) (h : IsD w g gs b n st) (s1 s3 : Int) (a a' : Option Addr) (len cap len' cap' : Nat) (dat : List Nat) (fat : List (Nat × Nat)) (hs3 : s3 ≤ 9223372036854775807) (hB : IsB w a len cap dat) (hF : IsF w a' len' cap' fat) (hw : st.wr < 4611686018427387904) :
    Calls Try.prog 16 #[.pointer (some ⟨g, 0, none⟩), .agg #[.int .u8 2, .int .i64 s1, .slice a len cap, .int .i64 s3, .slice a' len' cap']] w fun e w' => e = .returned (.int .i64 (st.step n ⟨2, s1, dat, s3, fat⟩).2) ∧ IsD w' g gs b n (st.step n ⟨2, s1, dat, s3, fat⟩).1 ∧ Frm (SD g gs b) w w' := by
  have H := hide h
  have HB := hide hB
  have HF := hide hF
  have HW := hide hw
  have HC := hide hs3
  have HB0 := hide (fun o : Obj => (Below.refl w.heap.size w).alloc (Nat.le_refl _) o)
  clear h hB hF hw hs3
  go_enter Try.func16, Try.ntmps16
  go_wp2_with fail
  generalize hW : w.alloc (Obj.cells #[.int .u8 2, .int .i64 s1, .slice a len cap, .int .i64 s3, .slice a' len' cap'] 35) = W1
  have HB1 : Hid (Below w.heap.size w W1) := hide (by rw [← hW]; exact HB0.out _)
  clear hW HB0
  refine (sync_any W1 g gs b n st (H.out.below HB1.out)).mono ?_
  rintro e w2 ⟨rfl, hI, hF2⟩
  have HI := hide hI
  have HF2 := hide ((Frm.below (S := SD g gs b) HB1.out).trans hF2)
  clear hI hF2
  go_wp2
  go_ret
  exact ⟨rfl, HI.out, HF2.out⟩
set_option maxHeartbeats 1000000 in
theorem call_3 (w : World) (g gs b n : Nat) (st : St) (h : IsD w g gs b n st) (s1 s3 : Int) (a a' : Option Addr) (len cap len' cap' : Nat) (dat : List Nat) (fat : List (Nat × Nat)) (hs3 : s3 ≤ 9223372036854775807) (hB : IsB w a len cap dat) (hF : IsF w a' len' cap' fat) (hw : st.wr < 4611686018427387904) :
    Calls Try.prog 16 #[.pointer (some ⟨g, 0, none⟩), .agg #[.int .u8 3, .int .i64 s1, .slice a len cap, .int .i64 s3, .slice a' len' cap']] w fun e w' => e = .returned (.int .i64 (st.step n ⟨3, s1, dat, s3, fat⟩).2) ∧ IsD w' g gs b n (st.step n ⟨3, s1, dat, s3, fat⟩).1 ∧ Frm (SD g gs b) w w' := by
  have H := hide h
  have HB := hide hB
  have HF := hide hF
  have HW := hide hw
  have HC := hide hs3
  have HB0 := hide (fun o : Obj => (Below.refl w.heap.size w).alloc (Nat.le_refl _) o)
  clear h hB hF hw hs3
  go_enter Try.func16, Try.ntmps16
  go_wp2_with fail
  generalize hW : w.alloc (Obj.cells #[.int .u8 3, .int .i64 s1, .slice a len cap, .int .i64 s3, .slice a' len' cap'] 35) = W1
  have HB1 : Hid (Below w.heap.size w W1) := hide (by rw [← hW]; exact HB0.out _)
  clear hW HB0
  refine (arm_any W1 g gs b n st (H.out.below HB1.out) s3 HC.out).mono ?_
  rintro e w2 ⟨rfl, hI, hF2⟩
  have HI := hide hI
  have HF2 := hide ((Frm.below (S := SD g gs b) HB1.out).trans hF2)
  clear hI hF2
  go_wp2
  go_ret
  exact ⟨rfl, HI.out, HF2.out⟩
set_option maxHeartbeats 1000000 in
theorem call_4 (w : World) (g gs b n : Nat) (st : St) (h : IsD w g gs b n st) (s1 s3 : Int) (a a' : Option Addr) (len cap len' cap' : Nat) (dat : List Nat) (fat : List (Nat × Nat)) (hs3 : s3 ≤ 9223372036854775807) (hB : IsB w a len cap dat) (hF : IsF w a' len' cap' fat) (hw : st.wr < 4611686018427387904) :
    Calls Try.prog 16 #[.pointer (some ⟨g, 0, none⟩), .agg #[.int .u8 4, .int .i64 s1, .slice a len cap, .int .i64 s3, .slice a' len' cap']] w fun e w' => e = .returned (.int .i64 (st.step n ⟨4, s1, dat, s3, fat⟩).2) ∧ IsD w' g gs b n (st.step n ⟨4, s1, dat, s3, fat⟩).1 ∧ Frm (SD g gs b) w w' := by
  have H := hide h
  have HB := hide hB
  have HF := hide hF
  have HW := hide hw
  have HC := hide hs3
  have HB0 := hide (fun o : Obj => (Below.refl w.heap.size w).alloc (Nat.le_refl _) o)
  clear h hB hF hw hs3
  go_enter Try.func16, Try.ntmps16
  go_wp2_with fail
  generalize hW : w.alloc (Obj.cells #[.int .u8 4, .int .i64 s1, .slice a len cap, .int .i64 s3, .slice a' len' cap'] 35) = W1
  have HB1 : Hid (Below w.heap.size w W1) := hide (by rw [← hW]; exact HB0.out _)
  clear hW HB0
  refine (cut_any W1 g gs b n st (H.out.below HB1.out)).mono ?_
  rintro e w2 ⟨rfl, hI, hF2⟩
  have HI := hide hI
  have HF2 := hide ((Frm.below (S := SD g gs b) HB1.out).trans hF2)
  clear hI hF2
  go_wp2
  go_ret
  exact ⟨rfl, HI.out, HF2.out⟩
set_option maxHeartbeats 1000000 in
theorem call_5 (w : World) (g gs b n : Nat) (st : St) (h : IsD w g gs b n st) (s1 s3 : Int) (a a' : Option Addr) (len cap len' cap' : Nat) (dat : List Nat) (fat : List (Nat × Nat)) (hs3 : s3 ≤ 9223372036854775807) (hB : IsB w a len cap dat) (hF : IsF w a' len' cap' fat) (hw : st.wr < 4611686018427387904) :
    Calls Try.prog 16 #[.pointer (some ⟨g, 0, none⟩), .agg #[.int .u8 5, .int .i64 s1, .slice a len cap, .int .i64 s3, .slice a' len' cap']] w fun e w' => e = .returned (.int .i64 (st.step n ⟨5, s1, dat, s3, fat⟩).2) ∧ IsD w' g gs b n (st.step n ⟨5, s1, dat, s3, fat⟩).1 ∧ Frm (SD g gs b) w w' := by
  have H := hide h
  have HB := hide hB
  have HF := hide hF
  have HW := hide hw
  have HC := hide hs3
  have HB0 := hide (fun o : Obj => (Below.refl w.heap.size w).alloc (Nat.le_refl _) o)
  clear h hB hF hw hs3
  go_enter Try.func16, Try.ntmps16
  go_wp2_with fail
  generalize hW : w.alloc (Obj.cells #[.int .u8 5, .int .i64 s1, .slice a len cap, .int .i64 s3, .slice a' len' cap'] 35) = W1
  have HB1 : Hid (Below w.heap.size w W1) := hide (by rw [← hW]; exact HB0.out _)
  clear hW HB0
  refine (rest_any W1 g gs b n st (H.out.below HB1.out) a' len' cap' fat (HF.out.below HB1.out)).mono ?_
  rintro e w2 ⟨rfl, hI, hF2⟩
  have HI := hide hI
  have HF2 := hide ((Frm.below (S := SD g gs b) HB1.out).trans hF2)
  clear hI hF2
  go_wp2
  go_ret
  exact ⟨rfl, HI.out, HF2.out⟩
theorem call_no (w : World) (g gs b n : Nat) (st : St) (h : IsD w g gs b n st) (k : Nat) (c1 c2 c3 c4 : Value) (h1 : k ≠ 1) (h2 : k ≠ 2) (h3 : k ≠ 3) (h4 : k ≠ 4) (h5 : k ≠ 5) :
    Calls Try.prog 16 #[.pointer (some ⟨g, 0, none⟩), .agg #[.int .u8 (k : Nat), c1, c2, c3, c4]] w fun e w' => e = .returned (.int .i64 15) ∧ IsD w' g gs b n st ∧ Frm (SD g gs b) w w' := by
  have H := hide h
  have HB0 := hide (fun o : Obj => (Below.refl w.heap.size w).alloc (Nat.le_refl _) o)
  have d1 : decide ((k : Int) = 1) = false := decide_eq_false (by omega)
  have e1 : decide (k = 1) = false := decide_eq_false (by omega)
  have d2 : decide ((k : Int) = 2) = false := decide_eq_false (by omega)
  have e2 : decide (k = 2) = false := decide_eq_false (by omega)
  have d3 : decide ((k : Int) = 3) = false := decide_eq_false (by omega)
  have e3 : decide (k = 3) = false := decide_eq_false (by omega)
  have d4 : decide ((k : Int) = 4) = false := decide_eq_false (by omega)
  have e4 : decide (k = 4) = false := decide_eq_false (by omega)
  have d5 : decide ((k : Int) = 5) = false := decide_eq_false (by omega)
  have e5 : decide (k = 5) = false := decide_eq_false (by omega)
  clear h
  go_enter Try.func16, Try.ntmps16
  go_wp2
  go_ret
  exact ⟨rfl, H.out.below (HB0.out _), Frm.below (HB0.out _)⟩
/-- call -/
theorem call_any (w : World) (g gs b n : Nat) (st : St) (h : IsD w g gs b n st) (c0 c1 c2 c3 c4 : Value) (s : Stp) (hs : IsS w c0 c1 c2 c3 c4 s) (hw : st.wr < 4611686018427387904) :
    Calls Try.prog 16 #[.pointer (some ⟨g, 0, none⟩), .agg #[c0, c1, c2, c3, c4]] w fun e w' => e = .returned (.int .i64 (st.step n s).2) ∧ IsD w' g gs b n (st.step n s).1 ∧ Frm (SD g gs b) w w' := by
  obtain ⟨k, s1, dat, s3, fat⟩ := s
  obtain ⟨rfl, rfl, rfl, h5, h6, ⟨a, len, cap, rfl, hB⟩, a', len', cap', rfl, hF⟩ := hs
  by_cases h1 : k = 1
  · subst h1; exact call_1 w g gs b n st h s1 s3 a a' len cap len' cap' dat fat h6 hB hF hw
  by_cases h2 : k = 2
  · subst h2; exact call_2 w g gs b n st h s1 s3 a a' len cap len' cap' dat fat h6 hB hF hw
  by_cases h3 : k = 3
  · subst h3; exact call_3 w g gs b n st h s1 s3 a a' len cap len' cap' dat fat h6 hB hF hw
  by_cases h4 : k = 4
  · subst h4; exact call_4 w g gs b n st h s1 s3 a a' len cap len' cap' dat fat h6 hB hF hw
  by_cases h5 : k = 5
  · subst h5; exact call_5 w g gs b n st h s1 s3 a a' len cap len' cap' dat fat h6 hB hF hw
  have e : st.step n ⟨k, s1, dat, s3, fat⟩ = (st, 15) := by unfold St.step; rw [if_neg h1, if_neg h2, if_neg h3, if_neg h4, if_neg h5]
  rw [e]
  exact call_no w g gs b n st h k _ _ _ _ h1 h2 h3 h4 h5
/-- Read, and what it hands out may be written to -/
theorem read_row (w : World) (g gs b n : Nat) (st : St) (h : IsD w g gs b n st) (i : Int) :
    Calls Try.prog 18 #[.pointer (some ⟨g, 0, none⟩), .int .i64 i] w fun e w' => ∃ a len cap, e = .returned (.tuple #[.slice a len cap, .int .i64 (st.readE n i)]) ∧ IsB w' a len cap (st.readL n i) ∧ (len = 0 ∨ ∃ q, a = some ⟨q, 0, none⟩ ∧ w.heap.size ≤ q ∧ Row w' q len cap (st.readL n i)) ∧ Below w.heap.size w w' := by
  unfold St.readE St.readL
  by_cases hd : st.down = true
  · rw [if_pos hd, if_pos hd]
    exact (read_dn w g gs b n st h hd i).mono (by rintro e w' ⟨rfl, rfl⟩; exact ⟨none, 0, 0, rfl, isB_nil _, .inl rfl, Below.refl _ _⟩)
  · rw [if_neg hd, if_neg hd]
    by_cases hi : 0 ≤ i ∧ i < n
    · rw [if_neg (fun e => e hi), if_neg (fun e => e hi)]
      obtain ⟨k, rfl⟩ : ∃ k : Nat, i = k := ⟨i.toNat, by omega⟩
      rw [Int.toNat_natCast]
      refine (read_ok w g gs b n st h (bool_not hd) k (by omega)).mono ?_
      rintro e w' ⟨q, rfl, hq, hrow, hb⟩
      exact ⟨_, _, _, rfl, hrow.isB (full_lt (h.dat (by omega)).1), .inr ⟨q, rfl, hq, hrow⟩, hb⟩
    · rw [if_pos hi, if_pos hi]
      exact (read_range w g gs b n st h (bool_not hd) i hi).mono (by rintro e w' ⟨rfl, rfl⟩; exact ⟨none, 0, 0, rfl, isB_nil _, .inl rfl, Below.refl _ _⟩)
/-- the same, with room behind -/
def St.wide (s : St) (X : Nat) : St := { s with xs := X }
theorem write_xs (s : St) (X n : Nat) (i : Int) (l : List Nat) : (s.wide X).write n i l = ((s.write n i l).1.wide X, (s.write n i l).2) := by
  unfold St.write
  show (if s.down = true then _ else _) = _
  by_cases h1 : s.down = true
  · rw [if_pos h1, if_pos h1]
  · rw [if_neg h1, if_neg h1]
    by_cases h2 : ¬ (0 ≤ i ∧ i < n)
    · rw [if_pos h2, if_pos h2]
    · rw [if_neg h2, if_neg h2]
      by_cases h3 : 4096 < l.length
      · rw [if_pos h3, if_pos h3]
      · rw [if_neg h3, if_neg h3]
        show (if s.arm = true ∧ s.left = 0 then _ else _) = _
        by_cases h4 : s.arm = true ∧ s.left = 0
        · rw [if_pos h4, if_pos h4]; rfl
        · rw [if_neg h4, if_neg h4]
          unfold St.goes
          show (St.puts (if s.arm = true then _ else _) _ _, _) = _
          by_cases h5 : s.arm = true
          · rw [if_pos h5, if_pos h5]; rfl
          · rw [if_neg h5, if_neg h5]; rfl
theorem sync_xs (s : St) (X : Nat) : (s.wide X).sync = (s.sync.1.wide X, s.sync.2) := by
  unfold St.sync
  show (if s.down = true then _ else _) = _
  by_cases h1 : s.down = true
  · rw [if_pos h1, if_pos h1]
  · rw [if_neg h1, if_neg h1]; rfl
theorem armed_xs (s : St) (X : Nat) (c : Int) : (s.wide X).armed c = ((s.armed c).1.wide X, (s.armed c).2) := by
  unfold St.armed
  show (if s.down = true then _ else _) = _
  by_cases h1 : s.down = true
  · rw [if_pos h1, if_pos h1]
  · rw [if_neg h1, if_neg h1]; rfl
theorem cut_xs (s : St) (X : Nat) : (s.wide X).cut = (s.cut.1.wide X, s.cut.2) := by
  unfold St.cut
  show (if s.down = true then _ else _) = _
  by_cases h1 : s.down = true
  · rw [if_pos h1, if_pos h1]
  · rw [if_neg h1, if_neg h1]; rfl
theorem rest_xs (s : St) (X n : Nat) (l : List (Nat × Nat)) : (s.wide X).rest n l = ((s.rest n l).1.wide X, (s.rest n l).2) := by
  unfold St.rest
  show (if s.down = true then _ else _) = _
  by_cases h1 : s.down = true
  · rw [if_pos h1, if_pos h1]
    by_cases h2 : 1024 < l.length
    · rw [if_pos h2, if_pos h2]
    · rw [if_neg h2, if_neg h2]
      by_cases h3 : goodB l = true
      · rw [if_pos h3, if_pos h3]; rfl
      · rw [if_neg h3, if_neg h3]
  · rw [if_neg h1, if_neg h1]
theorem step_xs (s : St) (X n : Nat) (p : Stp) : (s.wide X).step n p = ((s.step n p).1.wide X, (s.step n p).2) := by
  unfold St.step
  by_cases h1 : p.kind = 1
  · rw [if_pos h1, if_pos h1]; exact write_xs s X n _ _
  rw [if_neg h1, if_neg h1]
  by_cases h2 : p.kind = 2
  · rw [if_pos h2, if_pos h2]; exact sync_xs s X
  rw [if_neg h2, if_neg h2]
  by_cases h3 : p.kind = 3
  · rw [if_pos h3, if_pos h3]; exact armed_xs s X _
  rw [if_neg h3, if_neg h3]
  by_cases h4 : p.kind = 4
  · rw [if_pos h4, if_pos h4]; exact cut_xs s X
  rw [if_neg h4, if_neg h4]
  by_cases h5 : p.kind = 5
  · rw [if_pos h5, if_pos h5]; exact rest_xs s X n _
  rw [if_neg h5, if_neg h5]
end Go.Proofs.Ytdageggojaghmaa

/- contracts: lives -/
import Derived.Test.YtdageggojaghmaaSx
import Derived.Lib.SlBytesConst
namespace Go.Proofs.Ytdageggojaghmaa
open Go.RowKit
/-- the first byte of a sector -/
theorem first_up (w : World) (g gs b n : Nat) (st : St) (h : IsD NoX w g gs b n st) (hd : st.down = false) (i : Nat) (hi : i < n) (x : Nat) (hx : (full (st.reads i)).getD 0 0 = x) :
    Calls Try.prog 28 #[.pointer (some ⟨g, 0, none⟩), .int .i64 (i : Int)] w fun e w' => e = .returned (.int .u8 (x : Nat)) ∧ Below w.heap.size w w' := by
  have RD := hide (read_ok w g gs b n st h hd i hi)
  generalize full (st.reads i) = l at *
  clear h hd hi
  go_enter Try.func28, Try.ntmps28
  go_wp2_with fail
  refine RD.out.mono ?_
  rintro e w' ⟨q, rfl, hq, hrow, hb⟩
  have hc := hrow.cell (j := 0) (by omega)
  rw [hx] at hc
  have HB := hide hb
  clear hrow hb
  go_wp2
  go_ret
  exact ⟨rfl, HB.out⟩
theorem lit1 (W : World) (x : Nat) (h : x < 256) (m : Nat × Nat) : IsB (W.alloc (.cells #[.int .u8 (x : Nat)] 5 m)) (some ⟨W.heap.size, 0, none⟩) 1 1 [x] := isB_lit W [x] (by simpa using h) (by show 1 ≤ maxLen; decide) m
theorem conv1 (W : World) (x : Value) : (convert 32 32 (.slice (some ⟨W.heap.size, 0, none⟩) 1 1)).run Try.prog (W.alloc (.cells #[x] 5)) = .ok (.slice (some ⟨W.heap.size, 0, none⟩) 1 1) (W.alloc (.cells #[x] 5 (1, 2))) := Go.Lib.run_convert_bytes_const W 32 5 #[x] 1 1 Try.underlying32 Try.underlying5
theorem write_lit (W : World) (g gs b n : Nat) (st : St) (h : IsD NoX W g gs b n st) (hd : st.down = false) (i : Nat) (hi : i < n) (x : Nat) (hx : x < 256) (hw : st.wr < 4611686018427387904) (hp : st.arm = true → 0 < st.left) (m : Nat × Nat) :
    Calls Try.prog 25 #[.pointer (some ⟨g, 0, none⟩), .int .i64 (i : Int), .slice (some ⟨W.heap.size, 0, none⟩) 1 1] (W.alloc (.cells #[.int .u8 (x : Nat)] 5 m)) fun e w' => e = .returned (.int .i64 0) ∧ IsD NoX w' g gs b n (st.goes i [x]) ∧ Frm (SD g gs b) W w' := by
  have hb : Below W.heap.size W (W.alloc (.cells #[.int .u8 (x : Nat)] 5 m)) := (Below.refl _ _).alloc (Nat.le_refl _) _
  refine (write_ok _ g gs b n st (h.below hb) hd i hi _ 1 1 [x] (lit1 W x hx m) (by omega) hw hp).mono ?_
  rintro e w' ⟨rfl, h1, h2⟩
  exact ⟨rfl, h1, (Frm.below hb).trans h2⟩
set_option maxRecDepth 40000 in
set_option maxHeartbeats 2000000 in
/-- the disk lives -/
theorem lives_true (w : World) : Calls Try.prog 12 #[] w fun e w' => e = .returned (.bool true) ∧ Below w.heap.size w w' := by
  have NW : Hid (Calls Try.prog 10 #[.int .i64 2] w fun e w' => ∃ g gs b, e = .returned (.pointer (some ⟨g, 0, none⟩)) ∧ IsD NoX w' g gs b 2 st0 ∧ Below w.heap.size w w' ∧ ∀ i, SD g gs b i → w.heap.size ≤ i) := hide (new_ok w 2 (by decide) (by decide) (fun _ h => h.elim))
  have HB0 := hide (Below.refl w.heap.size w)
  generalize hB : w.heap.size = B at *
  have HBE := hide hB
  clear hB
  go_enter Try.func12, Try.ntmps12
  go_wp2_with fail
  refine NW.out.mono ?_
  rintro e w1 ⟨g, gs, b, rfl, hI1, hb1, hfr⟩
  have HFR := hide hfr
  have H1 := hide hI1
  have HB1 := hide hb1
  have HZ : ∀ W, Below B w W → B ≤ W.heap.size := fun W hW => by have := hW.size; have := HBE.out; omega
  have HZ := hide HZ
  clear hI1 hb1 hfr
  have k1 := conv1 w1 (.int .u8 97)
  go_wp2_with fail
  refine (write_lit w1 g gs b 2 st0 H1.out rfl 0 (by decide) 97 (by decide) (by decide) (fun h => by cases h) (1, 2)).mono ?_
  rintro e w2 ⟨rfl, hI2, hF2⟩
  have H2 := hide hI2
  have HB2 := hide (HB1.out.trans (hF2.toBelow (HZ.out _ HB1.out) HFR.out))
  clear hI2 hF2 k1
  go_wp2_with fail
  refine (sync_ok w2 g gs b 2 _ H2.out rfl).mono ?_
  rintro e w3 ⟨rfl, hI3, hF3⟩
  have H3 := hide hI3
  have HB3 := hide (HB2.out.trans (hF3.toBelow (HZ.out _ HB2.out) HFR.out))
  clear hI3 hF3
  have k3 := conv1 w3 (.int .u8 98)
  go_wp2_with fail
  refine (write_lit w3 g gs b 2 _ H3.out rfl 0 (by decide) 98 (by decide) (by decide) (fun h => by cases h) (1, 2)).mono ?_
  rintro e w4 ⟨rfl, hI4, hF4⟩
  have H4 := hide hI4
  have HB4 := hide (HB3.out.trans (hF4.toBelow (HZ.out _ HB3.out) HFR.out))
  clear hI4 hF4 k3
  go_wp2_with fail
  refine (first_up w4 g gs b 2 _ H4.out rfl 0 (by decide) 98 rfl).mono ?_
  rintro e w5 ⟨rfl, hb5⟩
  have H5 := hide (H4.out.below hb5)
  have HB5 := hide (HB4.out.trans (hb5.mono (HZ.out _ HB4.out)))
  clear hb5
  go_wp2_with fail
  refine (cut_up w5 g gs b 2 _ H5.out rfl).mono ?_
  rintro e w6 ⟨rfl, hI6, hF6⟩
  have H6 := hide hI6
  have HB6 := hide (HB5.out.trans (hF6.toBelow (HZ.out _ HB5.out) HFR.out))
  clear hI6 hF6
  go_wp2_with fail
  refine (read_dn w6 g gs b 2 _ H6.out rfl 0).mono ?_
  rintro e w7 ⟨rfl, rfl⟩
  go_wp2_with fail
  refine (rest_lose w7 g gs b 2 _ H6.out rfl).mono ?_
  rintro e w8 ⟨rfl, hI8, hF8⟩
  have H8 := hide hI8
  have HB8 := hide (HB6.out.trans (hF8.toBelow (HZ.out _ HB6.out) HFR.out))
  clear hI8 hF8
  go_wp2_with fail
  refine (first_up w8 g gs b 2 _ H8.out rfl 0 (by decide) 97 rfl).mono ?_
  rintro e w9 ⟨rfl, hb9⟩
  have H9 := hide (H8.out.below hb9)
  have HB9 := hide (HB8.out.trans (hb9.mono (HZ.out _ HB8.out)))
  clear hb9
  go_wp2_with fail
  refine (sectors_any w9 g gs b 2 _ H9.out).mono ?_
  rintro e wA ⟨rfl, rfl⟩
  go_wp2_with fail
  refine (writes_any wA g gs b 2 _ H9.out).mono ?_
  rintro e wB ⟨rfl, rfl⟩
  go_wp2
  go_ret
  exact ⟨rfl, HB9.out⟩
end Go.Proofs.Ytdageggojaghmaa

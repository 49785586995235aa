/- the walk of CrcLinear -/
import Derived.Test.YtmfdcbbeieelfaaJ
import Derived.Deep.RegionHeld3
import Derived.RegionTactic
namespace Go.Proofs.Ytmfdcbbeieelfaa
open Go.RowKit
theorem slice_to (W : World) (a : Option Addr) (l c n : Nat) (h : n ≤ c) :
    (Instr.slice 23 (.slice a l c) none (some (.int .i64 (n : Int))) none).run Try.prog W = .ok (.slice a n c) W := by
  have h1 : ¬ (n : Int) < 0 := by omega
  have h2 : ¬ (c : Int) < (n : Int) := by omega
  cases a with
  | none => go_simp
  | some x => go_simp
theorem IsB.cut {w : World} {a : Option Addr} {len cap : Nat} {l : List Nat} (h : IsB w a len cap l) (n : Nat) (hn : n ≤ len) : IsB w a n cap (l.take n) := by
  obtain ⟨h1, h2, h3, h4, h5⟩ := h
  refine ⟨by simp; omega, by omega, h3, mem_take h4, ?_⟩
  rcases h5 with ⟨h5, h6⟩ | ⟨b, off, rfl, hlt, hc⟩
  · exact .inl ⟨by omega, h6⟩
  · exact (IsB.front ⟨h1, h2, h3, h4, .inr ⟨b, off, rfl, hlt, hc⟩⟩ n hn).2.2.2.2
def x3 (A B C : List Nat) (n k : Nat) : List Nat := (List.range n).map fun i => if i < k then A.getD i 0 ^^^ B.getD i 0 ^^^ C.getD i 0 else 0
theorem x3_zero (A B C : List Nat) (n : Nat) : bv (x3 A B C n 0) = zeros n := by
  apply List.ext_getElem?
  intro i
  by_cases h : i < n <;> simp [x3, bv, zeros, h]
theorem x3_length (A B C : List Nat) (n k : Nat) : (x3 A B C n k).length = n := by simp [x3]
theorem x3_set (A B C : List Nat) (n k : Nat) (h : k < n) : (x3 A B C n k).set k (A.getD k 0 ^^^ B.getD k 0 ^^^ C.getD k 0) = x3 A B C n (k + 1) := by
  apply List.ext_getElem?
  intro i
  rw [List.getElem?_set]
  by_cases e : k = i
  · subst e; simp [x3, h]
  · rw [if_neg e]
    by_cases hi : i < n
    · have : (i < k) ↔ (i < k + 1) := by omega
      simp [x3, hi, this]
    · simp [x3, hi]
theorem xor8 {x y : Nat} (hx : x < 256) (hy : y < 256) : x ^^^ y < 256 := Nat.xor_lt_two_pow (n := 8) hx hy
theorem xor_lt32' {a b : Nat} (ha : a < 4294967296) (hb : b < 4294967296) : a ^^^ b < 4294967296 := Nat.xor_lt_two_pow (n := 32) ha hb
theorem of_below {w0 W : World} {a : Option Addr} {len cap : Nat} {l : List Nat} (h : IsB W a len cap l) (hb : Below w0.heap.size w0 W) : Calls Try.prog 12 #[.slice a len cap] W fun e w' => e = .returned (.int .u32 (Crc.update 0 l : Nat)) ∧ Below w0.heap.size w0 w' :=
  (of_any a len cap l W h).mono fun _ _ ⟨h1, h2⟩ => ⟨h1, hb.trans (h2.mono hb.size)⟩
theorem of_zero {w0 : World} (x : Option Addr) (cap : Nat) (W : World) (hb : Below w0.heap.size w0 W) : Calls Try.prog 12 #[.slice x 0 cap] W fun e w' => e = .returned (.int .u32 0) ∧ Below w0.heap.size w0 w' := by
  go_enter Try.func12, Try.ntmps12
  go_wp2_with fail
  refine (update_none 0 (by decide) x cap _).mono ?_
  rintro e w1 ⟨rfl, hb1⟩
  rw [show Crc.update 0 [] = 0 from by decide +kernel]
  go_wp2
  go_ret
  exact ⟨rfl, hb.trans (hb1.mono hb.size)⟩
theorem x3_lt (A B C : List Nat) (n k : Nat) (hA : ∀ x ∈ A, x < 256) (hB : ∀ x ∈ B, x < 256) (hC : ∀ x ∈ C, x < 256) : ∀ x ∈ x3 A B C n k, x < 256 := by
  intro x hx
  simp only [x3, List.mem_map] at hx
  obtain ⟨i, _, rfl⟩ := hx
  split
  · exact xor8 (xor8 (getD_lt A i hA) (getD_lt B i hB)) (getD_lt C i hC)
  · decide
theorem val_x3 (A B C : List Nat) (n : Nat) : n ≤ A.length → n ≤ B.length → n ≤ C.length → Crc.val (x3 A B C n n) = Crc.val (A.take n) ^^^ Crc.val (B.take n) ^^^ Crc.val (C.take n) := by
  have key : ∀ (n : Nat) (A B C : List Nat), n ≤ A.length → n ≤ B.length → n ≤ C.length → Crc.val ((List.range n).map fun i => A.getD i 0 ^^^ B.getD i 0 ^^^ C.getD i 0) = Crc.val (A.take n) ^^^ Crc.val (B.take n) ^^^ Crc.val (C.take n) := by
    intro n
    induction n with
    | zero => intro A B C _ _ _; simp [Crc.val]
    | succ n ih =>
      intro A B C h1 h2 h3
      match A, B, C, h1, h2, h3 with
      | x :: A, y :: B, z :: C, h1, h2, h3 =>
        have := ih A B C (by simpa using h1) (by simpa using h2) (by simpa using h3)
        rw [List.range_succ_eq_map, List.map_cons, List.map_map]
        simp only [List.take_succ_cons, Crc.val, List.getD_cons_zero]
        have e : ((fun i => (x :: A).getD i 0 ^^^ (y :: B).getD i 0 ^^^ (z :: C).getD i 0) ∘ Nat.succ) = fun i => A.getD i 0 ^^^ B.getD i 0 ^^^ C.getD i 0 := by
          funext i; simp
        rw [e, this, show 256 = 2 ^ 8 from rfl, mul_xor, mul_xor, Crc.xor4 (x ^^^ y) z, Crc.xor4 x y]
  intro h1 h2 h3
  rw [← key n A B C h1 h2 h3]
  congr 1
  apply List.map_congr_left
  intro i hi
  rw [if_pos (List.mem_range.1 hi)]
theorem linear_eq (A B C : List Nat) (n : Nat) (h1 : n ≤ A.length) (h2 : n ≤ B.length) (h3 : n ≤ C.length) :
    Crc.update 0 (x3 A B C n n) = Crc.update 0 (A.take n) ^^^ Crc.update 0 (B.take n) ^^^ Crc.update 0 (C.take n) := by
  unfold Crc.update
  rw [Crc.upd_val, Crc.upd_val, Crc.upd_val, Crc.upd_val, x3_length, List.length_take, List.length_take, List.length_take, Nat.min_eq_left h1, Nat.min_eq_left h2, Nat.min_eq_left h3, val_x3 A B C n h1 h2 h3]
  simp only [Crc.shN_xor, Nat.xor_zero]
  generalize Crc.shN (8 * n) 4294967295 = O
  generalize Crc.shN (8 * n) (Crc.val (A.take n)) = a
  generalize Crc.shN (8 * n) (Crc.val (B.take n)) = b
  generalize Crc.shN (8 * n) (Crc.val (C.take n)) = c
  have e1 : ∀ x y : Nat, (4294967295 ^^^ x) ^^^ (4294967295 ^^^ y) = x ^^^ y := by
    intro x y; rw [Crc.xor4, Nat.xor_self, Nat.zero_xor]
  rw [e1, Crc.xor4 O a, Nat.xor_self, Nat.zero_xor]
  ac_rfl
theorem Row.drew {w : World} {g len cap : Nat} {m : List Nat} (h : Row w g len cap m) : Row w.drew g len cap m := h
set_option maxHeartbeats 1000000 in
theorem linear1 (ba oa bb ob bc oc : Nat) (la lb lc ca cb cc : Nat) (A B C : List Nat) (w : World) (hA : IsB w (some ⟨ba, oa, none⟩) la ca A) (hB : IsB w (some ⟨bb, ob, none⟩) lb cb B) (hC : IsB w (some ⟨bc, oc, none⟩) lc cc C) (_hra : ca ≤ 140737488351232) (_hrb : cb ≤ 140737488351232) (_hrc : cc ≤ 140737488351232)
    (hpos : 0 < lc) (c1 : lb < la) (c2 : lc < lb) :
    Calls Try.prog 9 #[.slice (some ⟨ba, oa, none⟩) la ca, .slice (some ⟨bb, ob, none⟩) lb cb, .slice (some ⟨bc, oc, none⟩) lc cc] w fun e w' => e = .returned (.bool true) ∧ Below w.heap.size w w' := by
  have h1 : la ≤ ca := hA.2.1
  have h2 : lb ≤ cb := hB.2.1
  have h3 : lc ≤ cc := hC.2.1
  have xA := hA.2.2.2.1
  have xB := hB.2.2.2.1
  have xC := hC.2.2.2.1
  have n1 : lc ≤ la := by omega
  have n2 : lc ≤ lb := by omega
  have n3 : lc ≤ lc := by omega
  obtain ⟨_, _, ea, ga, cellA⟩ := hA.2.2.2.2.resolve_left (by omega)
  cases ea
  obtain ⟨_, _, eb, gb, cellB⟩ := hB.2.2.2.2.resolve_left (by omega)
  cases eb
  obtain ⟨_, _, ec, gc, cellC⟩ := hC.2.2.2.2.resolve_left (by omega)
  cases ec
  have E := hide (linear_eq A B C lc (by rw [hA.1]; exact n1) (by rw [hB.1]; exact n2) (by rw [hC.1]; exact n3))
  have hmk := fun W => run_mk W lc lc (Nat.le_refl _) (by omega)
  go_enter Try.func9, Try.ntmps9
  go_wp2_with fail
  refine (lives_any _).mono ?_
  rintro e w1 ⟨rfl, hb1⟩
  go_wp2_with fail
  have hrow : Row (w1.alloc (.cells (zeros lc).toArray 5)) w1.heap.size lc lc (x3 A B C lc 0) := by
    refine ⟨x3_length _ _ _ _ _, Nat.le_refl _, by unfold maxLen; omega, _, heap_alloc_new w1 _, by simp [zeros], ?_⟩
    rw [x3_zero]; simp [zeros]
  have hb2 : Below w.heap.size w (w1.alloc (.cells (zeros lc).toArray 5)) := hb1.alloc hb1.size _
  have hgw : w.heap.size ≤ w1.heap.size := hb1.size
  clear hmk hb1
  generalize hG : w1.heap.size = g at *
  clear hG
  generalize w1.alloc (.cells (zeros lc).toArray 5) = w2 at *
  go_loopw [9, 23] (fun _ i wr => ∃ k : Nat, k ≤ lc ∧ i = .int .i64 k ∧ Row wr g lc lc (x3 A B C lc k) ∧ Below w.heap.size w wr) (fun _ i _ => lc - (intOf i).toNat)
  case atStart => exact ⟨0, by omega, rfl, hrow, hb2⟩
  case round =>
    obtain ⟨k, hk, rfl, hr1, hb⟩ := hrel
    clear hrow hb2
    by_cases hlt : k < lc
    · have cA : wr.cell? ⟨ba, oa + k, none⟩ = some (.int .u8 (A.getD k 0 : Nat)) := (hb.cell (p := ⟨ba, oa + k, none⟩) ga).trans (cellA k (by omega))
      have cB : wr.cell? ⟨bb, ob + k, none⟩ = some (.int .u8 (B.getD k 0 : Nat)) := (hb.cell (p := ⟨bb, ob + k, none⟩) gb).trans (cellB k (by omega))
      have cC : wr.cell? ⟨bc, oc + k, none⟩ = some (.int .u8 (C.getD k 0 : Nat)) := (hb.cell (p := ⟨bc, oc + k, none⟩) gc).trans (cellC k (by omega))
      have hc := hr1.cell hlt
      have hf := hr1.frozen k
      have lA := getD_lt A k xA
      have lB := getD_lt B k xB
      have lC := getD_lt C k xC
      have e1 := u8_xor_nat (A.getD k 0) (B.getD k 0) lA lB
      have e2 := u8_xor_nat (A.getD k 0 ^^^ B.getD k 0) (C.getD k 0) (xor8 lA lB) lC
      have HR : Hid (Row (wr.setCell ⟨g, k, none⟩ (.int .u8 ((A.getD k 0 ^^^ B.getD k 0 ^^^ C.getD k 0 : Nat) : Int))) g lc lc (x3 A B C lc (k + 1))) := hide (by rw [← x3_set A B C lc k hlt]; exact hr1.set k _)
      have HB : Hid (Below w.heap.size w (wr.setCell ⟨g, k, none⟩ (.int .u8 ((A.getD k 0 ^^^ B.getD k 0 ^^^ C.getD k 0 : Nat) : Int)))) := hide (hb.setCell hgw _)
      clear hr1 hb cellA cellB cellC hA hB hC xA xB xC lA lB lC
      generalize (x3 A B C lc k).getD k 0 = o at *
      generalize A.getD k 0 ^^^ B.getD k 0 ^^^ C.getD k 0 = z at *
      generalize A.getD k 0 ^^^ B.getD k 0 = y at *
      generalize A.getD k 0 = xa at *
      generalize B.getD k 0 = xb at *
      generalize C.getD k 0 = xc at *
      go_wp2
      go_region
      all_goals go_wp2
      go_roundw
      case rel => exact ⟨k + 1, by omega, by go_num, HR.out.drew, HB.out.drew⟩
      case measure => simp [intOf]; omega
    · have hkn : k = lc := by omega
      rw [hkn] at hr1
      have hX := hr1.isB (x3_lt A B C lc lc xA xB xC)
      have qA := (hA.cut lc n1).below hb
      have qB := (hB.cut lc n2).below hb
      have qC := (hC.cut lc n3).below hb
      have lA := update_lt 0 (A.take lc) (by decide) (mem_take xA)
      have lB := update_lt 0 (B.take lc) (by decide) (mem_take xB)
      have lC := update_lt 0 (C.take lc) (by decide) (mem_take xC)
      have e1 := u32_xor_nat _ _ lA lB
      have e2 := u32_xor_nat _ _ (xor_lt32' lA lB) lC
      rw [← E.out] at e2
      have GX : Hid (∀ W', Below wr.heap.size wr W' → Calls Try.prog 12 #[.slice (some ⟨g, 0, none⟩) lc lc] W' fun e w' => e = .returned (.int .u32 (Crc.update 0 (x3 A B C lc lc) : Nat)) ∧ Below wr.heap.size wr w') := hide (fun W' hW => of_below (hX.below hW) hW)
      have GA : Hid (∀ W', Below wr.heap.size wr W' → Calls Try.prog 12 #[.slice (some ⟨ba, oa, none⟩) lc ca] W' fun e w' => e = .returned (.int .u32 (Crc.update 0 (A.take lc) : Nat)) ∧ Below wr.heap.size wr w') := hide (fun W' hW => of_below (qA.below hW) hW)
      have GB : Hid (∀ W', Below wr.heap.size wr W' → Calls Try.prog 12 #[.slice (some ⟨bb, ob, none⟩) lc cb] W' fun e w' => e = .returned (.int .u32 (Crc.update 0 (B.take lc) : Nat)) ∧ Below wr.heap.size wr w') := hide (fun W' hW => of_below (qB.below hW) hW)
      have GC : Hid (∀ W', Below wr.heap.size wr W' → Calls Try.prog 12 #[.slice (some ⟨bc, oc, none⟩) lc cc] W' fun e w' => e = .returned (.int .u32 (Crc.update 0 (C.take lc) : Nat)) ∧ Below wr.heap.size wr w') := hide (fun W' hW => of_below (qC.below hW) hW)
      clear hr1 hX qA qB qC lA lB lC cellA cellB cellC hA hB hC xA xB xC E
      generalize Crc.update 0 (x3 A B C lc lc) = zx at *
      generalize Crc.update 0 (A.take lc) = za at *
      generalize Crc.update 0 (B.take lc) = zb at *
      generalize Crc.update 0 (C.take lc) = zc at *
      generalize za ^^^ zb = zab at *
      have tok : Below wr.heap.size wr wr := Below.refl _ _
      have b0 : (0 : Int) ≤ (lc : Int) := by omega
      have b1 : (lc : Int) ≤ (ca : Int) := by omega
      have b2 : (lc : Int) ≤ (cb : Int) := by omega
      have b3 : (lc : Int) ≤ (cc : Int) := by omega
      have b4 : lc ≤ ca := by omega
      have b5 : lc ≤ cb := by omega
      have b6 : lc ≤ cc := by omega
      go_wp2
      go_region_held3 (fun w' => Below wr.heap.size wr w') (first | assumption | exact Below.drew (by assumption)) (first | (go_at_call_of 12 (Value.slice (some ⟨g, 0, none⟩) lc lc); refine (GX.out _ (by assumption)).mono ?_; rintro e w' ⟨rfl, hz⟩) | (go_at_call_of 12 (Value.slice (some ⟨ba, oa, none⟩) lc ca); refine (GA.out _ (by assumption)).mono ?_; rintro e w' ⟨rfl, hz⟩) | (go_at_call_of 12 (Value.slice (some ⟨bb, ob, none⟩) lc cb); refine (GB.out _ (by assumption)).mono ?_; rintro e w' ⟨rfl, hz⟩) | (go_at_call_of 12 (Value.slice (some ⟨bc, oc, none⟩) lc cc); refine (GC.out _ (by assumption)).mono ?_; rintro e w' ⟨rfl, hz⟩))
      go_wp2
      go_ret
      exact ⟨rfl, hb.trans (Below.mono (by assumption) hb.size)⟩
set_option maxHeartbeats 1000000 in
theorem linear2 (ba oa bb ob bc oc : Nat) (la lb lc ca cb cc : Nat) (A B C : List Nat) (w : World) (hA : IsB w (some ⟨ba, oa, none⟩) la ca A) (hB : IsB w (some ⟨bb, ob, none⟩) lb cb B) (hC : IsB w (some ⟨bc, oc, none⟩) lc cc C) (_hra : ca ≤ 140737488351232) (_hrb : cb ≤ 140737488351232) (_hrc : cc ≤ 140737488351232)
    (hpos : 0 < lb) (c1 : lb < la) (c2 : ¬ lc < lb) :
    Calls Try.prog 9 #[.slice (some ⟨ba, oa, none⟩) la ca, .slice (some ⟨bb, ob, none⟩) lb cb, .slice (some ⟨bc, oc, none⟩) lc cc] w fun e w' => e = .returned (.bool true) ∧ Below w.heap.size w w' := by
  have h1 : la ≤ ca := hA.2.1
  have h2 : lb ≤ cb := hB.2.1
  have h3 : lc ≤ cc := hC.2.1
  have xA := hA.2.2.2.1
  have xB := hB.2.2.2.1
  have xC := hC.2.2.2.1
  have n1 : lb ≤ la := by omega
  have n2 : lb ≤ lb := by omega
  have n3 : lb ≤ lc := by omega
  obtain ⟨_, _, ea, ga, cellA⟩ := hA.2.2.2.2.resolve_left (by omega)
  cases ea
  obtain ⟨_, _, eb, gb, cellB⟩ := hB.2.2.2.2.resolve_left (by omega)
  cases eb
  obtain ⟨_, _, ec, gc, cellC⟩ := hC.2.2.2.2.resolve_left (by omega)
  cases ec
  have E := hide (linear_eq A B C lb (by rw [hA.1]; exact n1) (by rw [hB.1]; exact n2) (by rw [hC.1]; exact n3))
  have hmk := fun W => run_mk W lb lb (Nat.le_refl _) (by omega)
  go_enter Try.func9, Try.ntmps9
  go_wp2_with fail
  refine (lives_any _).mono ?_
  rintro e w1 ⟨rfl, hb1⟩
  go_wp2_with fail
  have hrow : Row (w1.alloc (.cells (zeros lb).toArray 5)) w1.heap.size lb lb (x3 A B C lb 0) := by
    refine ⟨x3_length _ _ _ _ _, Nat.le_refl _, by unfold maxLen; omega, _, heap_alloc_new w1 _, by simp [zeros], ?_⟩
    rw [x3_zero]; simp [zeros]
  have hb2 : Below w.heap.size w (w1.alloc (.cells (zeros lb).toArray 5)) := hb1.alloc hb1.size _
  have hgw : w.heap.size ≤ w1.heap.size := hb1.size
  clear hmk hb1
  generalize hG : w1.heap.size = g at *
  clear hG
  generalize w1.alloc (.cells (zeros lb).toArray 5) = w2 at *
  go_loopw [9, 23] (fun _ i wr => ∃ k : Nat, k ≤ lb ∧ i = .int .i64 k ∧ Row wr g lb lb (x3 A B C lb k) ∧ Below w.heap.size w wr) (fun _ i _ => lb - (intOf i).toNat)
  case atStart => exact ⟨0, by omega, rfl, hrow, hb2⟩
  case round =>
    obtain ⟨k, hk, rfl, hr1, hb⟩ := hrel
    clear hrow hb2
    by_cases hlt : k < lb
    · have cA : wr.cell? ⟨ba, oa + k, none⟩ = some (.int .u8 (A.getD k 0 : Nat)) := (hb.cell (p := ⟨ba, oa + k, none⟩) ga).trans (cellA k (by omega))
      have cB : wr.cell? ⟨bb, ob + k, none⟩ = some (.int .u8 (B.getD k 0 : Nat)) := (hb.cell (p := ⟨bb, ob + k, none⟩) gb).trans (cellB k (by omega))
      have cC : wr.cell? ⟨bc, oc + k, none⟩ = some (.int .u8 (C.getD k 0 : Nat)) := (hb.cell (p := ⟨bc, oc + k, none⟩) gc).trans (cellC k (by omega))
      have hc := hr1.cell hlt
      have hf := hr1.frozen k
      have lA := getD_lt A k xA
      have lB := getD_lt B k xB
      have lC := getD_lt C k xC
      have e1 := u8_xor_nat (A.getD k 0) (B.getD k 0) lA lB
      have e2 := u8_xor_nat (A.getD k 0 ^^^ B.getD k 0) (C.getD k 0) (xor8 lA lB) lC
      have HR : Hid (Row (wr.setCell ⟨g, k, none⟩ (.int .u8 ((A.getD k 0 ^^^ B.getD k 0 ^^^ C.getD k 0 : Nat) : Int))) g lb lb (x3 A B C lb (k + 1))) := hide (by rw [← x3_set A B C lb k hlt]; exact hr1.set k _)
      have HB : Hid (Below w.heap.size w (wr.setCell ⟨g, k, none⟩ (.int .u8 ((A.getD k 0 ^^^ B.getD k 0 ^^^ C.getD k 0 : Nat) : Int)))) := hide (hb.setCell hgw _)
      clear hr1 hb cellA cellB cellC hA hB hC xA xB xC lA lB lC
      generalize (x3 A B C lb k).getD k 0 = o at *
      generalize A.getD k 0 ^^^ B.getD k 0 ^^^ C.getD k 0 = z at *
      generalize A.getD k 0 ^^^ B.getD k 0 = y at *
      generalize A.getD k 0 = xa at *
      generalize B.getD k 0 = xb at *
      generalize C.getD k 0 = xc at *
      go_wp2
      go_region
      all_goals go_wp2
      go_roundw
      case rel => exact ⟨k + 1, by omega, by go_num, HR.out.drew, HB.out.drew⟩
      case measure => simp [intOf]; omega
    · have hkn : k = lb := by omega
      rw [hkn] at hr1
      have hX := hr1.isB (x3_lt A B C lb lb xA xB xC)
      have qA := (hA.cut lb n1).below hb
      have qB := (hB.cut lb n2).below hb
      have qC := (hC.cut lb n3).below hb
      have lA := update_lt 0 (A.take lb) (by decide) (mem_take xA)
      have lB := update_lt 0 (B.take lb) (by decide) (mem_take xB)
      have lC := update_lt 0 (C.take lb) (by decide) (mem_take xC)
      have e1 := u32_xor_nat _ _ lA lB
      have e2 := u32_xor_nat _ _ (xor_lt32' lA lB) lC
      rw [← E.out] at e2
      have GX : Hid (∀ W', Below wr.heap.size wr W' → Calls Try.prog 12 #[.slice (some ⟨g, 0, none⟩) lb lb] W' fun e w' => e = .returned (.int .u32 (Crc.update 0 (x3 A B C lb lb) : Nat)) ∧ Below wr.heap.size wr w') := hide (fun W' hW => of_below (hX.below hW) hW)
      have GA : Hid (∀ W', Below wr.heap.size wr W' → Calls Try.prog 12 #[.slice (some ⟨ba, oa, none⟩) lb ca] W' fun e w' => e = .returned (.int .u32 (Crc.update 0 (A.take lb) : Nat)) ∧ Below wr.heap.size wr w') := hide (fun W' hW => of_below (qA.below hW) hW)
      have GB : Hid (∀ W', Below wr.heap.size wr W' → Calls Try.prog 12 #[.slice (some ⟨bb, ob, none⟩) lb cb] W' fun e w' => e = .returned (.int .u32 (Crc.update 0 (B.take lb) : Nat)) ∧ Below wr.heap.size wr w') := hide (fun W' hW => of_below (qB.below hW) hW)
      have GC : Hid (∀ W', Below wr.heap.size wr W' → Calls Try.prog 12 #[.slice (some ⟨bc, oc, none⟩) lb cc] W' fun e w' => e = .returned (.int .u32 (Crc.update 0 (C.take lb) : Nat)) ∧ Below wr.heap.size wr w') := hide (fun W' hW => of_below (qC.below hW) hW)
      clear hr1 hX qA qB qC lA lB lC cellA cellB cellC hA hB hC xA xB xC E
      generalize Crc.update 0 (x3 A B C lb lb) = zx at *
      generalize Crc.update 0 (A.take lb) = za at *
      generalize Crc.update 0 (B.take lb) = zb at *
      generalize Crc.update 0 (C.take lb) = zc at *
      generalize za ^^^ zb = zab at *
      have tok : Below wr.heap.size wr wr := Below.refl _ _
      have b0 : (0 : Int) ≤ (lb : Int) := by omega
      have b1 : (lb : Int) ≤ (ca : Int) := by omega
      have b2 : (lb : Int) ≤ (cb : Int) := by omega
      have b3 : (lb : Int) ≤ (cc : Int) := by omega
      have b4 : lb ≤ ca := by omega
      have b5 : lb ≤ cb := by omega
      have b6 : lb ≤ cc := by omega
      go_wp2
      go_region_held3 (fun w' => Below wr.heap.size wr w') (first | assumption | exact Below.drew (by assumption)) (first | (go_at_call_of 12 (Value.slice (some ⟨g, 0, none⟩) lb lb); refine (GX.out _ (by assumption)).mono ?_; rintro e w' ⟨rfl, hz⟩) | (go_at_call_of 12 (Value.slice (some ⟨ba, oa, none⟩) lb ca); refine (GA.out _ (by assumption)).mono ?_; rintro e w' ⟨rfl, hz⟩) | (go_at_call_of 12 (Value.slice (some ⟨bb, ob, none⟩) lb cb); refine (GB.out _ (by assumption)).mono ?_; rintro e w' ⟨rfl, hz⟩) | (go_at_call_of 12 (Value.slice (some ⟨bc, oc, none⟩) lb cc); refine (GC.out _ (by assumption)).mono ?_; rintro e w' ⟨rfl, hz⟩))
      go_wp2
      go_ret
      exact ⟨rfl, hb.trans (Below.mono (by assumption) hb.size)⟩
set_option maxHeartbeats 1000000 in
theorem linear3 (ba oa bb ob bc oc : Nat) (la lb lc ca cb cc : Nat) (A B C : List Nat) (w : World) (hA : IsB w (some ⟨ba, oa, none⟩) la ca A) (hB : IsB w (some ⟨bb, ob, none⟩) lb cb B) (hC : IsB w (some ⟨bc, oc, none⟩) lc cc C) (_hra : ca ≤ 140737488351232) (_hrb : cb ≤ 140737488351232) (_hrc : cc ≤ 140737488351232)
    (hpos : 0 < lc) (c1 : ¬ lb < la) (c2 : lc < la) :
    Calls Try.prog 9 #[.slice (some ⟨ba, oa, none⟩) la ca, .slice (some ⟨bb, ob, none⟩) lb cb, .slice (some ⟨bc, oc, none⟩) lc cc] w fun e w' => e = .returned (.bool true) ∧ Below w.heap.size w w' := by
  have h1 : la ≤ ca := hA.2.1
  have h2 : lb ≤ cb := hB.2.1
  have h3 : lc ≤ cc := hC.2.1
  have xA := hA.2.2.2.1
  have xB := hB.2.2.2.1
  have xC := hC.2.2.2.1
  have n1 : lc ≤ la := by omega
  have n2 : lc ≤ lb := by omega
  have n3 : lc ≤ lc := by omega
  obtain ⟨_, _, ea, ga, cellA⟩ := hA.2.2.2.2.resolve_left (by omega)
  cases ea
  obtain ⟨_, _, eb, gb, cellB⟩ := hB.2.2.2.2.resolve_left (by omega)
  cases eb
  obtain ⟨_, _, ec, gc, cellC⟩ := hC.2.2.2.2.resolve_left (by omega)
  cases ec
  have E := hide (linear_eq A B C lc (by rw [hA.1]; exact n1) (by rw [hB.1]; exact n2) (by rw [hC.1]; exact n3))
  have hmk := fun W => run_mk W lc lc (Nat.le_refl _) (by omega)
  go_enter Try.func9, Try.ntmps9
  go_wp2_with fail
  refine (lives_any _).mono ?_
  rintro e w1 ⟨rfl, hb1⟩
  go_wp2_with fail
  have hrow : Row (w1.alloc (.cells (zeros lc).toArray 5)) w1.heap.size lc lc (x3 A B C lc 0) := by
    refine ⟨x3_length _ _ _ _ _, Nat.le_refl _, by unfold maxLen; omega, _, heap_alloc_new w1 _, by simp [zeros], ?_⟩
    rw [x3_zero]; simp [zeros]
  have hb2 : Below w.heap.size w (w1.alloc (.cells (zeros lc).toArray 5)) := hb1.alloc hb1.size _
  have hgw : w.heap.size ≤ w1.heap.size := hb1.size
  clear hmk hb1
  generalize hG : w1.heap.size = g at *
  clear hG
  generalize w1.alloc (.cells (zeros lc).toArray 5) = w2 at *
  go_loopw [9, 23] (fun _ i wr => ∃ k : Nat, k ≤ lc ∧ i = .int .i64 k ∧ Row wr g lc lc (x3 A B C lc k) ∧ Below w.heap.size w wr) (fun _ i _ => lc - (intOf i).toNat)
  case atStart => exact ⟨0, by omega, rfl, hrow, hb2⟩
  case round =>
    obtain ⟨k, hk, rfl, hr1, hb⟩ := hrel
    clear hrow hb2
    by_cases hlt : k < lc
    · have cA : wr.cell? ⟨ba, oa + k, none⟩ = some (.int .u8 (A.getD k 0 : Nat)) := (hb.cell (p := ⟨ba, oa + k, none⟩) ga).trans (cellA k (by omega))
      have cB : wr.cell? ⟨bb, ob + k, none⟩ = some (.int .u8 (B.getD k 0 : Nat)) := (hb.cell (p := ⟨bb, ob + k, none⟩) gb).trans (cellB k (by omega))
      have cC : wr.cell? ⟨bc, oc + k, none⟩ = some (.int .u8 (C.getD k 0 : Nat)) := (hb.cell (p := ⟨bc, oc + k, none⟩) gc).trans (cellC k (by omega))
      have hc := hr1.cell hlt
      have hf := hr1.frozen k
      have lA := getD_lt A k xA
      have lB := getD_lt B k xB
      have lC := getD_lt C k xC
      have e1 := u8_xor_nat (A.getD k 0) (B.getD k 0) lA lB
      have e2 := u8_xor_nat (A.getD k 0 ^^^ B.getD k 0) (C.getD k 0) (xor8 lA lB) lC
      have HR : Hid (Row (wr.setCell ⟨g, k, none⟩ (.int .u8 ((A.getD k 0 ^^^ B.getD k 0 ^^^ C.getD k 0 : Nat) : Int))) g lc lc (x3 A B C lc (k + 1))) := hide (by rw [← x3_set A B C lc k hlt]; exact hr1.set k _)
      have HB : Hid (Below w.heap.size w (wr.setCell ⟨g, k, none⟩ (.int .u8 ((A.getD k 0 ^^^ B.getD k 0 ^^^ C.getD k 0 : Nat) : Int)))) := hide (hb.setCell hgw _)
      clear hr1 hb cellA cellB cellC hA hB hC xA xB xC lA lB lC
      generalize (x3 A B C lc k).getD k 0 = o at *
      generalize A.getD k 0 ^^^ B.getD k 0 ^^^ C.getD k 0 = z at *
      generalize A.getD k 0 ^^^ B.getD k 0 = y at *
      generalize A.getD k 0 = xa at *
      generalize B.getD k 0 = xb at *
      generalize C.getD k 0 = xc at *
      go_wp2
      go_region
      all_goals go_wp2
      go_roundw
      case rel => exact ⟨k + 1, by omega, by go_num, HR.out.drew, HB.out.drew⟩
      case measure => simp [intOf]; omega
    · have hkn : k = lc := by omega
      rw [hkn] at hr1
      have hX := hr1.isB (x3_lt A B C lc lc xA xB xC)
      have qA := (hA.cut lc n1).below hb
      have qB := (hB.cut lc n2).below hb
      have qC := (hC.cut lc n3).below hb
      have lA := update_lt 0 (A.take lc) (by decide) (mem_take xA)
      have lB := update_lt 0 (B.take lc) (by decide) (mem_take xB)
      have lC := update_lt 0 (C.take lc) (by decide) (mem_take xC)
      have e1 := u32_xor_nat _ _ lA lB
      have e2 := u32_xor_nat _ _ (xor_lt32' lA lB) lC
      rw [← E.out] at e2
      have GX : Hid (∀ W', Below wr.heap.size wr W' → Calls Try.prog 12 #[.slice (some ⟨g, 0, none⟩) lc lc] W' fun e w' => e = .returned (.int .u32 (Crc.update 0 (x3 A B C lc lc) : Nat)) ∧ Below wr.heap.size wr w') := hide (fun W' hW => of_below (hX.below hW) hW)
      have GA : Hid (∀ W', Below wr.heap.size wr W' → Calls Try.prog 12 #[.slice (some ⟨ba, oa, none⟩) lc ca] W' fun e w' => e = .returned (.int .u32 (Crc.update 0 (A.take lc) : Nat)) ∧ Below wr.heap.size wr w') := hide (fun W' hW => of_below (qA.below hW) hW)
      have GB : Hid (∀ W', Below wr.heap.size wr W' → Calls Try.prog 12 #[.slice (some ⟨bb, ob, none⟩) lc cb] W' fun e w' => e = .returned (.int .u32 (Crc.update 0 (B.take lc) : Nat)) ∧ Below wr.heap.size wr w') := hide (fun W' hW => of_below (qB.below hW) hW)
      have GC : Hid (∀ W', Below wr.heap.size wr W' → Calls Try.prog 12 #[.slice (some ⟨bc, oc, none⟩) lc cc] W' fun e w' => e = .returned (.int .u32 (Crc.update 0 (C.take lc) : Nat)) ∧ Below wr.heap.size wr w') := hide (fun W' hW => of_below (qC.below hW) hW)
      clear hr1 hX qA qB qC lA lB lC cellA cellB cellC hA hB hC xA xB xC E
      generalize Crc.update 0 (x3 A B C lc lc) = zx at *
      generalize Crc.update 0 (A.take lc) = za at *
      generalize Crc.update 0 (B.take lc) = zb at *
      generalize Crc.update 0 (C.take lc) = zc at *
      generalize za ^^^ zb = zab at *
      have tok : Below wr.heap.size wr wr := Below.refl _ _
      have b0 : (0 : Int) ≤ (lc : Int) := by omega
      have b1 : (lc : Int) ≤ (ca : Int) := by omega
      have b2 : (lc : Int) ≤ (cb : Int) := by omega
      have b3 : (lc : Int) ≤ (cc : Int) := by omega
      have b4 : lc ≤ ca := by omega
      have b5 : lc ≤ cb := by omega
      have b6 : lc ≤ cc := by omega
      go_wp2
      go_region_held3 (fun w' => Below wr.heap.size wr w') (first | assumption | exact Below.drew (by assumption)) (first | (go_at_call_of 12 (Value.slice (some ⟨g, 0, none⟩) lc lc); refine (GX.out _ (by assumption)).mono ?_; rintro e w' ⟨rfl, hz⟩) | (go_at_call_of 12 (Value.slice (some ⟨ba, oa, none⟩) lc ca); refine (GA.out _ (by assumption)).mono ?_; rintro e w' ⟨rfl, hz⟩) | (go_at_call_of 12 (Value.slice (some ⟨bb, ob, none⟩) lc cb); refine (GB.out _ (by assumption)).mono ?_; rintro e w' ⟨rfl, hz⟩) | (go_at_call_of 12 (Value.slice (some ⟨bc, oc, none⟩) lc cc); refine (GC.out _ (by assumption)).mono ?_; rintro e w' ⟨rfl, hz⟩))
      go_wp2
      go_ret
      exact ⟨rfl, hb.trans (Below.mono (by assumption) hb.size)⟩
set_option maxHeartbeats 1000000 in
theorem linear4 (ba oa bb ob bc oc : Nat) (la lb lc ca cb cc : Nat) (A B C : List Nat) (w : World) (hA : IsB w (some ⟨ba, oa, none⟩) la ca A) (hB : IsB w (some ⟨bb, ob, none⟩) lb cb B) (hC : IsB w (some ⟨bc, oc, none⟩) lc cc C) (_hra : ca ≤ 140737488351232) (_hrb : cb ≤ 140737488351232) (_hrc : cc ≤ 140737488351232)
    (hpos : 0 < la) (c1 : ¬ lb < la) (c2 : ¬ lc < la) :
    Calls Try.prog 9 #[.slice (some ⟨ba, oa, none⟩) la ca, .slice (some ⟨bb, ob, none⟩) lb cb, .slice (some ⟨bc, oc, none⟩) lc cc] w fun e w' => e = .returned (.bool true) ∧ Below w.heap.size w w' := by
  have h1 : la ≤ ca := hA.2.1
  have h2 : lb ≤ cb := hB.2.1
  have h3 : lc ≤ cc := hC.2.1
  have xA := hA.2.2.2.1
  have xB := hB.2.2.2.1
  have xC := hC.2.2.2.1
  have n1 : la ≤ la := by omega
  have n2 : la ≤ lb := by omega
  have n3 : la ≤ lc := by omega
  obtain ⟨_, _, ea, ga, cellA⟩ := hA.2.2.2.2.resolve_left (by omega)
  cases ea
  obtain ⟨_, _, eb, gb, cellB⟩ := hB.2.2.2.2.resolve_left (by omega)
  cases eb
  obtain ⟨_, _, ec, gc, cellC⟩ := hC.2.2.2.2.resolve_left (by omega)
  cases ec
  have E := hide (linear_eq A B C la (by rw [hA.1]; exact n1) (by rw [hB.1]; exact n2) (by rw [hC.1]; exact n3))
  have hmk := fun W => run_mk W la la (Nat.le_refl _) (by omega)
  go_enter Try.func9, Try.ntmps9
  go_wp2_with fail
  refine (lives_any _).mono ?_
  rintro e w1 ⟨rfl, hb1⟩
  go_wp2_with fail
  have hrow : Row (w1.alloc (.cells (zeros la).toArray 5)) w1.heap.size la la (x3 A B C la 0) := by
    refine ⟨x3_length _ _ _ _ _, Nat.le_refl _, by unfold maxLen; omega, _, heap_alloc_new w1 _, by simp [zeros], ?_⟩
    rw [x3_zero]; simp [zeros]
  have hb2 : Below w.heap.size w (w1.alloc (.cells (zeros la).toArray 5)) := hb1.alloc hb1.size _
  have hgw : w.heap.size ≤ w1.heap.size := hb1.size
  clear hmk hb1
  generalize hG : w1.heap.size = g at *
  clear hG
  generalize w1.alloc (.cells (zeros la).toArray 5) = w2 at *
  go_loopw [9, 23] (fun _ i wr => ∃ k : Nat, k ≤ la ∧ i = .int .i64 k ∧ Row wr g la la (x3 A B C la k) ∧ Below w.heap.size w wr) (fun _ i _ => la - (intOf i).toNat)
  case atStart => exact ⟨0, by omega, rfl, hrow, hb2⟩
  case round =>
    obtain ⟨k, hk, rfl, hr1, hb⟩ := hrel
    clear hrow hb2
    by_cases hlt : k < la
    · have cA : wr.cell? ⟨ba, oa + k, none⟩ = some (.int .u8 (A.getD k 0 : Nat)) := (hb.cell (p := ⟨ba, oa + k, none⟩) ga).trans (cellA k (by omega))
      have cB : wr.cell? ⟨bb, ob + k, none⟩ = some (.int .u8 (B.getD k 0 : Nat)) := (hb.cell (p := ⟨bb, ob + k, none⟩) gb).trans (cellB k (by omega))
      have cC : wr.cell? ⟨bc, oc + k, none⟩ = some (.int .u8 (C.getD k 0 : Nat)) := (hb.cell (p := ⟨bc, oc + k, none⟩) gc).trans (cellC k (by omega))
      have hc := hr1.cell hlt
      have hf := hr1.frozen k
      have lA := getD_lt A k xA
      have lB := getD_lt B k xB
      have lC := getD_lt C k xC
      have e1 := u8_xor_nat (A.getD k 0) (B.getD k 0) lA lB
      have e2 := u8_xor_nat (A.getD k 0 ^^^ B.getD k 0) (C.getD k 0) (xor8 lA lB) lC
      have HR : Hid (Row (wr.setCell ⟨g, k, none⟩ (.int .u8 ((A.getD k 0 ^^^ B.getD k 0 ^^^ C.getD k 0 : Nat) : Int))) g la la (x3 A B C la (k + 1))) := hide (by rw [← x3_set A B C la k hlt]; exact hr1.set k _)
      have HB : Hid (Below w.heap.size w (wr.setCell ⟨g, k, none⟩ (.int .u8 ((A.getD k 0 ^^^ B.getD k 0 ^^^ C.getD k 0 : Nat) : Int)))) := hide (hb.setCell hgw _)
      clear hr1 hb cellA cellB cellC hA hB hC xA xB xC lA lB lC
      generalize (x3 A B C la k).getD k 0 = o at *
      generalize A.getD k 0 ^^^ B.getD k 0 ^^^ C.getD k 0 = z at *
      generalize A.getD k 0 ^^^ B.getD k 0 = y at *
      generalize A.getD k 0 = xa at *
      generalize B.getD k 0 = xb at *
      generalize C.getD k 0 = xc at *
      go_wp2
      go_region
      all_goals go_wp2
      go_roundw
      case rel => exact ⟨k + 1, by omega, by go_num, HR.out.drew, HB.out.drew⟩
      case measure => simp [intOf]; omega
    · have hkn : k = la := by omega
      rw [hkn] at hr1
      have hX := hr1.isB (x3_lt A B C la la xA xB xC)
      have qA := (hA.cut la n1).below hb
      have qB := (hB.cut la n2).below hb
      have qC := (hC.cut la n3).below hb
      have lA := update_lt 0 (A.take la) (by decide) (mem_take xA)
      have lB := update_lt 0 (B.take la) (by decide) (mem_take xB)
      have lC := update_lt 0 (C.take la) (by decide) (mem_take xC)
      have e1 := u32_xor_nat _ _ lA lB
      have e2 := u32_xor_nat _ _ (xor_lt32' lA lB) lC
      rw [← E.out] at e2
      have GX : Hid (∀ W', Below wr.heap.size wr W' → Calls Try.prog 12 #[.slice (some ⟨g, 0, none⟩) la la] W' fun e w' => e = .returned (.int .u32 (Crc.update 0 (x3 A B C la la) : Nat)) ∧ Below wr.heap.size wr w') := hide (fun W' hW => of_below (hX.below hW) hW)
      have GA : Hid (∀ W', Below wr.heap.size wr W' → Calls Try.prog 12 #[.slice (some ⟨ba, oa, none⟩) la ca] W' fun e w' => e = .returned (.int .u32 (Crc.update 0 (A.take la) : Nat)) ∧ Below wr.heap.size wr w') := hide (fun W' hW => of_below (qA.below hW) hW)
      have GB : Hid (∀ W', Below wr.heap.size wr W' → Calls Try.prog 12 #[.slice (some ⟨bb, ob, none⟩) la cb] W' fun e w' => e = .returned (.int .u32 (Crc.update 0 (B.take la) : Nat)) ∧ Below wr.heap.size wr w') := hide (fun W' hW => of_below (qB.below hW) hW)
      have GC : Hid (∀ W', Below wr.heap.size wr W' → Calls Try.prog 12 #[.slice (some ⟨bc, oc, none⟩) la cc] W' fun e w' => e = .returned (.int .u32 (Crc.update 0 (C.take la) : Nat)) ∧ Below wr.heap.size wr w') := hide (fun W' hW => of_below (qC.below hW) hW)
      clear hr1 hX qA qB qC lA lB lC cellA cellB cellC hA hB hC xA xB xC E
      generalize Crc.update 0 (x3 A B C la la) = zx at *
      generalize Crc.update 0 (A.take la) = za at *
      generalize Crc.update 0 (B.take la) = zb at *
      generalize Crc.update 0 (C.take la) = zc at *
      generalize za ^^^ zb = zab at *
      have tok : Below wr.heap.size wr wr := Below.refl _ _
      have b0 : (0 : Int) ≤ (la : Int) := by omega
      have b1 : (la : Int) ≤ (ca : Int) := by omega
      have b2 : (la : Int) ≤ (cb : Int) := by omega
      have b3 : (la : Int) ≤ (cc : Int) := by omega
      have b4 : la ≤ ca := by omega
      have b5 : la ≤ cb := by omega
      have b6 : la ≤ cc := by omega
      go_wp2
      go_region_held3 (fun w' => Below wr.heap.size wr w') (first | assumption | exact Below.drew (by assumption)) (first | (go_at_call_of 12 (Value.slice (some ⟨g, 0, none⟩) la la); refine (GX.out _ (by assumption)).mono ?_; rintro e w' ⟨rfl, hz⟩) | (go_at_call_of 12 (Value.slice (some ⟨ba, oa, none⟩) la ca); refine (GA.out _ (by assumption)).mono ?_; rintro e w' ⟨rfl, hz⟩) | (go_at_call_of 12 (Value.slice (some ⟨bb, ob, none⟩) la cb); refine (GB.out _ (by assumption)).mono ?_; rintro e w' ⟨rfl, hz⟩) | (go_at_call_of 12 (Value.slice (some ⟨bc, oc, none⟩) la cc); refine (GC.out _ (by assumption)).mono ?_; rintro e w' ⟨rfl, hz⟩))
      go_wp2
      go_ret
      exact ⟨rfl, hb.trans (Below.mono (by assumption) hb.size)⟩
set_option maxHeartbeats 1000000 in
theorem linearA (a b c : Option Addr) (la lb lc ca cb cc : Nat) (w : World)  (_q1 : la ≤ 140737488351232) (_q2 : lb ≤ 140737488351232) (_q3 : lc ≤ 140737488351232) :
    Calls Try.prog 9 #[.slice a 0 ca, .slice b lb cb, .slice c lc cc] w fun e w' => e = .returned (.bool true) ∧ Below w.heap.size w w' := by
  have hmk : ∀ W : World, (Instr.makeSlice 23 (.int .i64 0) (.int .i64 0)).run Try.prog W = .ok (.slice (some ⟨W.heap.size, 0, none⟩) 0 0) (W.alloc (.cells #[] 5)) := fun W => run_mk W 0 0 (Nat.le_refl _) (by decide)
  have s1 : ∀ W : World, (Instr.slice 23 (.slice a 0 ca) none (some (.int .i64 0)) none).run Try.prog W = .ok (.slice a 0 ca) W := fun W => slice_to W a 0 ca 0 (by omega)
  have s2 : ∀ W : World, (Instr.slice 23 (.slice b lb cb) none (some (.int .i64 0)) none).run Try.prog W = .ok (.slice b 0 cb) W := fun W => slice_to W b lb cb 0 (by omega)
  have s3 : ∀ W : World, (Instr.slice 23 (.slice c lc cc) none (some (.int .i64 0)) none).run Try.prog W = .ok (.slice c 0 cc) W := fun W => slice_to W c lc cc 0 (by omega)
  have hx0 : bits .xor .u32 0 0 = 0 := by decide
  go_enter Try.func9, Try.ntmps9
  go_wp2_with fail
  refine (lives_any _).mono ?_
  rintro e w1 ⟨rfl, hb1⟩
  go_wp2_with fail
  have hb : Below w.heap.size w (w1.alloc (.cells #[] 5)) := hb1.alloc hb1.size _
  clear hmk hb1
  generalize hG : w1.heap.size = g at *
  clear hG
  generalize w1.alloc (.cells #[] 5) = wr at *
  go_loop [9, 23] (fun _ i => i = .int .i64 0) (fun _ _ => 0)
  case atStart => exact rfl
  case round =>
    obtain rfl := hrel
    have G0 : Hid (∀ (x : Option Addr) (cap : Nat) (W' : World), Below wr.heap.size wr W' → Calls Try.prog 12 #[.slice x 0 cap] W' fun e w' => e = .returned (.int .u32 0) ∧ Below wr.heap.size wr w') := hide (fun x cap W' hW => of_zero x cap W' hW)
    have tok : Below wr.heap.size wr wr := Below.refl _ _
    go_wp2
    go_region_held3 (fun w' => Below wr.heap.size wr w') (first | assumption | exact Below.drew (by assumption)) (first | (go_at_call 12; refine (G0.out _ _ _ (by assumption)).mono ?_; rintro e w' ⟨rfl, hz⟩))
    go_wp2
    go_ret
    exact ⟨rfl, hb.trans (Below.mono (by assumption) hb.size)⟩
set_option maxHeartbeats 1000000 in
theorem linearB (a b c : Option Addr) (la lb lc ca cb cc : Nat) (w : World) (c1 : 0 < la) (_q1 : la ≤ 140737488351232) (_q2 : lb ≤ 140737488351232) (_q3 : lc ≤ 140737488351232) :
    Calls Try.prog 9 #[.slice a la ca, .slice b 0 cb, .slice c lc cc] w fun e w' => e = .returned (.bool true) ∧ Below w.heap.size w w' := by
  have hmk : ∀ W : World, (Instr.makeSlice 23 (.int .i64 0) (.int .i64 0)).run Try.prog W = .ok (.slice (some ⟨W.heap.size, 0, none⟩) 0 0) (W.alloc (.cells #[] 5)) := fun W => run_mk W 0 0 (Nat.le_refl _) (by decide)
  have s1 : ∀ W : World, (Instr.slice 23 (.slice a la ca) none (some (.int .i64 0)) none).run Try.prog W = .ok (.slice a 0 ca) W := fun W => slice_to W a la ca 0 (by omega)
  have s2 : ∀ W : World, (Instr.slice 23 (.slice b 0 cb) none (some (.int .i64 0)) none).run Try.prog W = .ok (.slice b 0 cb) W := fun W => slice_to W b 0 cb 0 (by omega)
  have s3 : ∀ W : World, (Instr.slice 23 (.slice c lc cc) none (some (.int .i64 0)) none).run Try.prog W = .ok (.slice c 0 cc) W := fun W => slice_to W c lc cc 0 (by omega)
  have hx0 : bits .xor .u32 0 0 = 0 := by decide
  go_enter Try.func9, Try.ntmps9
  go_wp2_with fail
  refine (lives_any _).mono ?_
  rintro e w1 ⟨rfl, hb1⟩
  go_wp2_with fail
  have hb : Below w.heap.size w (w1.alloc (.cells #[] 5)) := hb1.alloc hb1.size _
  clear hmk hb1
  generalize hG : w1.heap.size = g at *
  clear hG
  generalize w1.alloc (.cells #[] 5) = wr at *
  go_loop [9, 23] (fun _ i => i = .int .i64 0) (fun _ _ => 0)
  case atStart => exact rfl
  case round =>
    obtain rfl := hrel
    have G0 : Hid (∀ (x : Option Addr) (cap : Nat) (W' : World), Below wr.heap.size wr W' → Calls Try.prog 12 #[.slice x 0 cap] W' fun e w' => e = .returned (.int .u32 0) ∧ Below wr.heap.size wr w') := hide (fun x cap W' hW => of_zero x cap W' hW)
    have tok : Below wr.heap.size wr wr := Below.refl _ _
    go_wp2
    go_region_held3 (fun w' => Below wr.heap.size wr w') (first | assumption | exact Below.drew (by assumption)) (first | (go_at_call 12; refine (G0.out _ _ _ (by assumption)).mono ?_; rintro e w' ⟨rfl, hz⟩))
    go_wp2
    go_ret
    exact ⟨rfl, hb.trans (Below.mono (by assumption) hb.size)⟩
set_option maxHeartbeats 1000000 in
theorem linearC (a b c : Option Addr) (la lb lc ca cb cc : Nat) (w : World) (c1 : lb < la) (c2 : 0 < lb) (_q1 : la ≤ 140737488351232) (_q2 : lb ≤ 140737488351232) (_q3 : lc ≤ 140737488351232) :
    Calls Try.prog 9 #[.slice a la ca, .slice b lb cb, .slice c 0 cc] w fun e w' => e = .returned (.bool true) ∧ Below w.heap.size w w' := by
  have hmk : ∀ W : World, (Instr.makeSlice 23 (.int .i64 0) (.int .i64 0)).run Try.prog W = .ok (.slice (some ⟨W.heap.size, 0, none⟩) 0 0) (W.alloc (.cells #[] 5)) := fun W => run_mk W 0 0 (Nat.le_refl _) (by decide)
  have s1 : ∀ W : World, (Instr.slice 23 (.slice a la ca) none (some (.int .i64 0)) none).run Try.prog W = .ok (.slice a 0 ca) W := fun W => slice_to W a la ca 0 (by omega)
  have s2 : ∀ W : World, (Instr.slice 23 (.slice b lb cb) none (some (.int .i64 0)) none).run Try.prog W = .ok (.slice b 0 cb) W := fun W => slice_to W b lb cb 0 (by omega)
  have s3 : ∀ W : World, (Instr.slice 23 (.slice c 0 cc) none (some (.int .i64 0)) none).run Try.prog W = .ok (.slice c 0 cc) W := fun W => slice_to W c 0 cc 0 (by omega)
  have hx0 : bits .xor .u32 0 0 = 0 := by decide
  go_enter Try.func9, Try.ntmps9
  go_wp2_with fail
  refine (lives_any _).mono ?_
  rintro e w1 ⟨rfl, hb1⟩
  go_wp2_with fail
  have hb : Below w.heap.size w (w1.alloc (.cells #[] 5)) := hb1.alloc hb1.size _
  clear hmk hb1
  generalize hG : w1.heap.size = g at *
  clear hG
  generalize w1.alloc (.cells #[] 5) = wr at *
  go_loop [9, 23] (fun _ i => i = .int .i64 0) (fun _ _ => 0)
  case atStart => exact rfl
  case round =>
    obtain rfl := hrel
    have G0 : Hid (∀ (x : Option Addr) (cap : Nat) (W' : World), Below wr.heap.size wr W' → Calls Try.prog 12 #[.slice x 0 cap] W' fun e w' => e = .returned (.int .u32 0) ∧ Below wr.heap.size wr w') := hide (fun x cap W' hW => of_zero x cap W' hW)
    have tok : Below wr.heap.size wr wr := Below.refl _ _
    go_wp2
    go_region_held3 (fun w' => Below wr.heap.size wr w') (first | assumption | exact Below.drew (by assumption)) (first | (go_at_call 12; refine (G0.out _ _ _ (by assumption)).mono ?_; rintro e w' ⟨rfl, hz⟩))
    go_wp2
    go_ret
    exact ⟨rfl, hb.trans (Below.mono (by assumption) hb.size)⟩
set_option maxHeartbeats 1000000 in
theorem linearD (a b c : Option Addr) (la lb lc ca cb cc : Nat) (w : World) (c1 : ¬ lb < la) (c2 : 0 < la) (_q1 : la ≤ 140737488351232) (_q2 : lb ≤ 140737488351232) (_q3 : lc ≤ 140737488351232) :
    Calls Try.prog 9 #[.slice a la ca, .slice b lb cb, .slice c 0 cc] w fun e w' => e = .returned (.bool true) ∧ Below w.heap.size w w' := by
  have hmk : ∀ W : World, (Instr.makeSlice 23 (.int .i64 0) (.int .i64 0)).run Try.prog W = .ok (.slice (some ⟨W.heap.size, 0, none⟩) 0 0) (W.alloc (.cells #[] 5)) := fun W => run_mk W 0 0 (Nat.le_refl _) (by decide)
  have s1 : ∀ W : World, (Instr.slice 23 (.slice a la ca) none (some (.int .i64 0)) none).run Try.prog W = .ok (.slice a 0 ca) W := fun W => slice_to W a la ca 0 (by omega)
  have s2 : ∀ W : World, (Instr.slice 23 (.slice b lb cb) none (some (.int .i64 0)) none).run Try.prog W = .ok (.slice b 0 cb) W := fun W => slice_to W b lb cb 0 (by omega)
  have s3 : ∀ W : World, (Instr.slice 23 (.slice c 0 cc) none (some (.int .i64 0)) none).run Try.prog W = .ok (.slice c 0 cc) W := fun W => slice_to W c 0 cc 0 (by omega)
  have hx0 : bits .xor .u32 0 0 = 0 := by decide
  go_enter Try.func9, Try.ntmps9
  go_wp2_with fail
  refine (lives_any _).mono ?_
  rintro e w1 ⟨rfl, hb1⟩
  go_wp2_with fail
  have hb : Below w.heap.size w (w1.alloc (.cells #[] 5)) := hb1.alloc hb1.size _
  clear hmk hb1
  generalize hG : w1.heap.size = g at *
  clear hG
  generalize w1.alloc (.cells #[] 5) = wr at *
  go_loop [9, 23] (fun _ i => i = .int .i64 0) (fun _ _ => 0)
  case atStart => exact rfl
  case round =>
    obtain rfl := hrel
    have G0 : Hid (∀ (x : Option Addr) (cap : Nat) (W' : World), Below wr.heap.size wr W' → Calls Try.prog 12 #[.slice x 0 cap] W' fun e w' => e = .returned (.int .u32 0) ∧ Below wr.heap.size wr w') := hide (fun x cap W' hW => of_zero x cap W' hW)
    have tok : Below wr.heap.size wr wr := Below.refl _ _
    go_wp2
    go_region_held3 (fun w' => Below wr.heap.size wr w') (first | assumption | exact Below.drew (by assumption)) (first | (go_at_call 12; refine (G0.out _ _ _ (by assumption)).mono ?_; rintro e w' ⟨rfl, hz⟩))
    go_wp2
    go_ret
    exact ⟨rfl, hb.trans (Below.mono (by assumption) hb.size)⟩
theorem crcLinear.lawWalk (a : Option Addr) (la ca : Nat) (A : List Nat) (b : Option Addr) (lb cb : Nat) (B : List Nat) (c : Option Addr) (lc cc : Nat) (C : List Nat) (w : World) (hA : IsB w a la ca A) (hra : ca ≤ 140737488351232) (hB : IsB w b lb cb B) (hrb : cb ≤ 140737488351232) (hC : IsB w c lc cc C) (hrc : cc ≤ 140737488351232) :
    Calls Try.prog 9 #[.slice a la ca, .slice b lb cb, .slice c lc cc] w fun e w' => e = .returned (.bool true) ∧ Below w.heap.size w w' := by
  have h1 : la ≤ ca := hA.2.1
  have h2 : lb ≤ cb := hB.2.1
  have h3 : lc ≤ cc := hC.2.1
  by_cases za : la = 0
  · subst za
    exact linearA a b c 0 lb lc ca cb cc w (by omega) (by omega) (by omega)
  by_cases zb : lb = 0
  · subst zb
    exact linearB a b c la 0 lc ca cb cc w (by omega) (by omega) (by omega) (by omega)
  by_cases zc : lc = 0
  · subst zc
    by_cases c1 : lb < la
    · exact linearC a b c la lb 0 ca cb cc w c1 (by omega) (by omega) (by omega) (by omega)
    · exact linearD a b c la lb 0 ca cb cc w c1 (by omega) (by omega) (by omega) (by omega)
  obtain ⟨ba, oa, rfl, _⟩ := hA.2.2.2.2.resolve_left (by omega)
  obtain ⟨bb, ob, rfl, _⟩ := hB.2.2.2.2.resolve_left (by omega)
  obtain ⟨bc, oc, rfl, _⟩ := hC.2.2.2.2.resolve_left (by omega)
  by_cases c1 : lb < la
  · by_cases c2 : lc < lb
    · exact linear1 ba oa bb ob bc oc la lb lc ca cb cc A B C w hA hB hC hra hrb hrc (by omega) c1 c2
    · exact linear2 ba oa bb ob bc oc la lb lc ca cb cc A B C w hA hB hC hra hrb hrc (by omega) c1 c2
  · by_cases c2 : lc < la
    · exact linear3 ba oa bb ob bc oc la lb lc ca cb cc A B C w hA hB hC hra hrb hrc (by omega) c1 c2
    · exact linear4 ba oa bb ob bc oc la lb lc ca cb cc A B C w hA hB hC hra hrb hrc (by omega) c1 c2
end Go.Proofs.Ytmfdcbbeieelfaa

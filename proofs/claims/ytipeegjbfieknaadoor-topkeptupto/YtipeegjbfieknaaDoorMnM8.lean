/- contracts: Cut, Parse -/
import Derived.Test.YtipeegjbfieknaaDoorMnM7
import Derived.Lib.IndexLaws
namespace Go.Proofs.YtipeegjbfieknaaDoor.Mn
open Go.RowKit Go.Shelf Go.Sort Go.Lib
set_option maxRecDepth 40000
theorem ext_take (L : List UInt8) (o : Nat) : (⟨L.toArray⟩ : ByteArray).extract 0 o = ⟨(L.take o).toArray⟩ := by
  apply ByteArray.ext
  rw [ByteArray.data_extract]
  simp
theorem ext_drop (L : List UInt8) (o : Nat) : (⟨L.toArray⟩ : ByteArray).extract o L.length = ⟨(L.drop o).toArray⟩ := by
  apply ByteArray.ext
  rw [ByteArray.data_extract]
  simp [List.take_of_length_le]
def pcut (L : List UInt8) : List UInt8 × List UInt8 := if 0 ≤ indexByte L 46 then (L.take (indexByte L 46).toNat, L.drop ((indexByte L 46).toNat + 1)) else (L, [])
theorem ret_three {a b c d : ByteArray} {p q : Bool} (h : a = b) (h' : c = d) (h2 : p = q) : Ending.returned (.tuple #[.string a, .string c, .bool p]) = .returned (.tuple #[.string b, .string d, .bool q]) := by rw [h, h', h2]
set_option maxHeartbeats 400000 in
theorem cut_any (L : List UInt8) (hL : L.length ≤ 9223372036854775806) (w : World) :
    Calls Tryd.prog 47 #[.string ⟨L.toArray⟩, .string ⟨#[46]⟩] w fun e w' => (∃ b, e = .returned (.tuple #[.string ⟨(pcut L).1.toArray⟩, .string ⟨(pcut L).2.toArray⟩, .bool b])) ∧ Below w.heap.size w w' := by
  have I := hide (fun W => Tryd.stringslite_Index_one ⟨L.toArray⟩ 46 W)
  have hsz : (⟨L.toArray⟩ : ByteArray).size = L.length := by simp [ByteArray.size]
  by_cases h0 : 0 ≤ indexByte L 46
  · obtain ⟨o, ho⟩ := Int.eq_ofNat_of_zero_le h0
    have hol : o < L.length := by
      have := (indexByte_some ho).1
      exact (List.getElem?_eq_some_iff.1 this).1
    have HP : Hid (pcut L = (L.take o, L.drop (o + 1))) := hide (by unfold pcut; rw [if_pos h0, ho]; simp)
    have E1 := hide (ext_take L o)
    have E2 := hide (ext_drop L (o + 1))
    rw [show (⟨L.toArray⟩ : ByteArray).data.toList = L from rfl, ho] at I
    have b1 : (o : Int) ≤ ((⟨L.toArray⟩ : ByteArray).size : Int) := by rw [hsz]; omega
    have b2 : (o : Int) + 1 ≤ ((⟨L.toArray⟩ : ByteArray).size : Int) := by rw [hsz]; omega
    have b3 : o + 1 ≤ (⟨L.toArray⟩ : ByteArray).size := by rw [hsz]; omega
    have b4 : (0 : Int) ≤ (o : Int) := by omega
    rw [← hsz] at E2
    clear h0 ho hsz
    generalize (⟨L.toArray⟩ : ByteArray) = s at *
    go_enter Tryd.func47, Tryd.ntmps47
    go_wp2_with fail
    refine (I.out _).mono ?_
    rintro e w' ⟨rfl, rfl⟩
    go_wp2
    go_quiet (fail)
    go_wp2
    go_ret3
    exact ⟨⟨true, ret_three (by rw [HP.out]; exact E1.out) (by rw [HP.out]; exact E2.out) rfl⟩, below_drewN (Below.refl _ _) _⟩
  · have hneg : indexByte L 46 = -1 := by have := indexByte_ge L 46; omega
    have HP : Hid (pcut L = (L, [])) := hide (by unfold pcut; rw [if_neg h0])
    rw [show (⟨L.toArray⟩ : ByteArray).data.toList = L from rfl, hneg] at I
    clear h0 hneg hsz
    go_enter Tryd.func47, Tryd.ntmps47
    go_wp2_with fail
    refine (I.out _).mono ?_
    rintro e w' ⟨rfl, rfl⟩
    go_wp2
    go_ret3
    exact ⟨⟨false, ret_three (by rw [HP.out]) (by rw [HP.out]) rfl⟩, Below.refl _ _⟩
theorem scut_any (L : List UInt8) (hL : L.length ≤ 9223372036854775806) (w : World) :
    Calls Tryd.prog 33 #[.string ⟨L.toArray⟩, .string ⟨#[46]⟩] w fun e w' => (∃ b, e = .returned (.tuple #[.string ⟨(pcut L).1.toArray⟩, .string ⟨(pcut L).2.toArray⟩, .bool b])) ∧ Below w.heap.size w w' := by
  have C := hide (fun W => cut_any L hL W)
  generalize (⟨(pcut L).1.toArray⟩ : ByteArray) = s1 at *
  generalize (⟨(pcut L).2.toArray⟩ : ByteArray) = s2 at *
  generalize (⟨L.toArray⟩ : ByteArray) = s at *
  go_enter Tryd.func33, Tryd.ntmps33
  go_wp2_with fail
  refine (C.out _).mono ?_
  rintro e w1 ⟨⟨b, rfl⟩, hb⟩
  go_wp2
  go_ret3
  exact ⟨⟨b, rfl⟩, hb⟩
/-- what a text's body, behind its sign, is read as -/
def fine (L : List UInt8) : Bool := whole (pcut L).1 && (decide ((pcut L).2.length = 2) && (dig (pcut L).2 && !(pcut L).2.isEmpty))
def sgn (a : Nat) (neg : Bool) : Int × Int :=
  if neg then (if a = 0 then (0, 14) else if a ≤ 9223372036854775808 then (-(a : Int), 0) else (0, 5)) else (if a ≤ 9223372036854775807 then ((a : Int), 0) else (0, 5))
def parB (B : List UInt8) (neg : Bool) : Int × Int :=
  if fine B then (match rd 0 ((pcut B).1 ++ (pcut B).2) with
    | none => (0, 5)
    | some a => sgn a neg) else (0, 14)
def par (L : List UInt8) : Int × Int := parB (trimPrefix L [45]) (hasPrefix L [45])
theorem dig_app {A B : List UInt8} (h1 : dig A = true) (h2 : dig B = true) : dig (A ++ B) = true := by
  unfold dig at *; rw [List.all_append, h1, h2]; rfl
theorem whole_dig {A : List UInt8} (h : whole A = true) : dig A = true := by
  unfold whole at h
  rw [Bool.and_eq_true, Bool.and_eq_true] at h
  exact h.1.1
theorem trim_len (L : List UInt8) : (trimPrefix L [45]).length ≤ L.length := by
  unfold trimPrefix; split <;> simp
theorem pcut_len (L : List UInt8) : (pcut L).1.length + (pcut L).2.length ≤ L.length := by
  unfold pcut; split
  · simp; omega
  · simp
theorem cat_lists (A B : List UInt8) : ((⟨A.toArray⟩ : ByteArray) ++ ⟨B.toArray⟩ : ByteArray) = ⟨(A ++ B).toArray⟩ := by
  apply ByteArray.ext
  rw [ByteArray.data_append]
  simp
set_option maxHeartbeats 1000000 in
/-- money.Parse -/
theorem parse_any (L : List UInt8) (hL : L.length ≤ 140737488355328) (w : World) :
    Calls Tryd.prog 17 #[.string ⟨L.toArray⟩] w fun e w' => e = .returned (.tuple #[.int .i64 (par L).1, .int .i64 (par L).2]) ∧ Below w.heap.size w w' := by
  have P := hide (fun W => Tryd.strings_CutPrefix ⟨L.toArray⟩ ⟨#[45]⟩ W)
  rw [show (⟨L.toArray⟩ : ByteArray).data.toList = L from rfl, show (⟨#[45]⟩ : ByteArray).data.toList = [45] from rfl] at P
  have HP : Hid (par L = parB (trimPrefix L [45]) (hasPrefix L [45])) := hide rfl
  have hlen := trim_len L
  generalize hasPrefix L [45] = neg at *
  generalize trimPrefix L [45] = B at *
  have C := hide (fun W => scut_any B (by omega) W)
  have hpl := pcut_len B
  have W1 := hide (fun W => isWhole_any (pcut B).1 W)
  have W2 := hide (fun W => areDigits_any (pcut B).2 W)
  have W3 := hide (fun hd W => readAmount_any ((pcut B).1 ++ (pcut B).2) W hd)
  have HB : Hid (parB B neg = if fine B then (match rd 0 ((pcut B).1 ++ (pcut B).2) with | none => (0, 5) | some a => sgn a neg) else (0, 14)) := hide rfl
  have HFI : Hid (fine B = (whole (pcut B).1 && (decide ((pcut B).2.length = 2) && (dig (pcut B).2 && !(pcut B).2.isEmpty)))) := hide rfl
  generalize fine B = fn at *
  generalize hc1 : (pcut B).1 = A1 at *
  generalize hc2 : (pcut B).2 = A2 at *
  clear hc1 hc2
  have hs2 : (⟨A2.toArray⟩ : ByteArray).size = A2.length := by simp [ByteArray.size]
  have hs1 : (⟨A1.toArray⟩ : ByteArray).size = A1.length := by simp [ByteArray.size]
  cases hw : whole A1
  · rw [hw] at W1
    have HF : Hid (par L = (0, 14)) := hide (by rw [HP.out, HB.out, HFI.out, hw]; rfl)
    clear HB HP HFI W2 W3 hw hs1 hs2
    generalize (⟨A1.toArray⟩ : ByteArray) = s1 at *
    generalize (⟨A2.toArray⟩ : ByteArray) = s2 at *
    go_enter Tryd.func17, Tryd.ntmps17
    go_wp2_with fail
    refine (P.out _).mono ?_
    rintro e w' ⟨rfl, rfl⟩
    go_wp2_with fail
    refine (C.out _).mono ?_
    rintro e w1 ⟨⟨bb, rfl⟩, hb1⟩
    go_wp2_with fail
    refine (W1.out _).mono ?_
    rintro e w2 ⟨rfl, hb2⟩
    go_wp2
    go_ret2
    exact ⟨ret_two (by rw [HF.out]) (by rw [HF.out]), hb1.trans (hb2.mono hb1.size)⟩
  rw [hw] at W1
  by_cases hl2 : A2.length = 2
  case neg =>
    have t : (((⟨A2.toArray⟩ : ByteArray).size : Int) != 2) = true := by rw [hs2, bne_iff_ne]; omega
    have HF : Hid (par L = (0, 14)) := hide (by rw [HP.out, HB.out, HFI.out, hw]; simp [hl2])
    clear HB HP HFI W2 W3 hw hl2 hs1 hs2
    generalize (⟨A1.toArray⟩ : ByteArray) = s1 at *
    generalize (⟨A2.toArray⟩ : ByteArray) = s2 at *
    go_enter Tryd.func17, Tryd.ntmps17
    go_wp2_with fail
    refine (P.out _).mono ?_
    rintro e w' ⟨rfl, rfl⟩
    go_wp2_with fail
    refine (C.out _).mono ?_
    rintro e w1 ⟨⟨bb, rfl⟩, hb1⟩
    go_wp2_with fail
    refine (W1.out _).mono ?_
    rintro e w2 ⟨rfl, hb2⟩
    have h2 : Below w'.heap.size w' w2 := hb1.trans (hb2.mono hb1.size)
    clear hb1 hb2
    go_wp2
    go_ret2
    exact ⟨ret_two (by rw [HF.out]) (by rw [HF.out]), h2⟩
  have t : (((⟨A2.toArray⟩ : ByteArray).size : Int) != 2) = false := by rw [hs2, hl2]; rfl
  cases hd2 : (dig A2 && !A2.isEmpty)
  · rw [hd2] at W2
    have HF : Hid (par L = (0, 14)) := hide (by rw [HP.out, HB.out, HFI.out, hw, hd2]; simp)
    clear HB HP HFI W3 hw hl2 hd2 hs1 hs2
    generalize (⟨A1.toArray⟩ : ByteArray) = s1 at *
    generalize (⟨A2.toArray⟩ : ByteArray) = s2 at *
    go_enter Tryd.func17, Tryd.ntmps17
    go_wp2_with fail
    refine (P.out _).mono ?_
    rintro e w' ⟨rfl, rfl⟩
    go_wp2_with fail
    refine (C.out _).mono ?_
    rintro e w1 ⟨⟨bb, rfl⟩, hb1⟩
    go_wp2_with fail
    refine (W1.out _).mono ?_
    rintro e w2 ⟨rfl, hb2⟩
    have h2 : Below w'.heap.size w' w2 := hb1.trans (hb2.mono hb1.size)
    clear hb1 hb2
    go_wp2_with fail
    refine (W2.out _).mono ?_
    rintro e w3 ⟨rfl, hb3⟩
    have h3 : Below w'.heap.size w' w3 := h2.trans (hb3.mono h2.size)
    clear h2 hb3
    go_wp2
    go_ret2
    exact ⟨ret_two (by rw [HF.out]) (by rw [HF.out]), h3⟩
  rw [hd2] at W2
  have hdd : dig (A1 ++ A2) = true := dig_app (whole_dig hw) (by rw [Bool.and_eq_true] at hd2; exact hd2.1)
  have W3 := hide (W3.out hdd)
  have HB2 : Hid (par L = (match rd 0 (A1 ++ A2) with | none => (0, 5) | some a => sgn a neg)) := hide (by rw [HP.out, HB.out, HFI.out, hw, hd2, hl2]; rfl)
  have ECAT := hide (cat_lists A1 A2)
  have hss : (⟨A1.toArray⟩ : ByteArray).size + (⟨A2.toArray⟩ : ByteArray).size ≤ 140737488355328 := by rw [hs1, hs2]; omega
  clear HB HP HFI hw hl2 hd2 hdd hs1 hs2
  generalize (⟨(A1 ++ A2).toArray⟩ : ByteArray) = s12 at *
  generalize (⟨A1.toArray⟩ : ByteArray) = s1 at *
  generalize (⟨A2.toArray⟩ : ByteArray) = s2 at *
  cases hr : rd 0 (A1 ++ A2) with
  | none =>
    rw [hr] at W3
    have HF : Hid (par L = (0, 5)) := hide (by rw [HB2.out, hr])
    clear HB2 hr
    go_enter Tryd.func17, Tryd.ntmps17
    go_wp2_with fail
    refine (P.out _).mono ?_
    rintro e w' ⟨rfl, rfl⟩
    go_wp2_with fail
    refine (C.out _).mono ?_
    rintro e w1 ⟨⟨bb, rfl⟩, hb1⟩
    go_wp2_with fail
    refine (W1.out _).mono ?_
    rintro e w2 ⟨rfl, hb2⟩
    have h2 : Below w'.heap.size w' w2 := hb1.trans (hb2.mono hb1.size)
    clear hb1 hb2
    go_wp2_with fail
    refine (W2.out _).mono ?_
    rintro e w3 ⟨rfl, hb3⟩
    have h3 : Below w'.heap.size w' w3 := h2.trans (hb3.mono h2.size)
    clear h2 hb3
    go_wp2_with fail
    rw [ECAT.out]
    refine (W3.out _).mono ?_
    rintro e w4 ⟨rfl, hb4⟩
    have h4 : Below w'.heap.size w' w4 := h3.trans (hb4.mono h3.size)
    clear h3 hb4
    go_wp2
    go_ret2
    exact ⟨ret_two (by rw [HF.out]) (by rw [HF.out]), h4⟩
  | some a =>
    rw [hr] at W3
    have HF : Hid (par L = sgn a neg) := hide (by rw [HB2.out, hr])
    simp only [Option.getD_some, Option.isSome_some] at W3
    clear HB2 hr
    cases neg
    · have HS : Hid (∀ W : World, Calls Tryd.prog 37 #[.int .u64 a, .bool false] W fun e w' => e = .returned (.tuple #[.int .i64 (par L).1, .int .i64 (par L).2]) ∧ w' = W) := hide (fun W => by
        rw [HF.out]; unfold sgn
        by_cases h : a ≤ 9223372036854775807
        · simp only [h, if_true, Bool.false_eq_true, if_false]; exact signed_above a h W
        · simp only [h, Bool.false_eq_true, if_false]; exact signed_over a false (by simp) (by omega) W)
      clear HF
      go_enter Tryd.func17, Tryd.ntmps17
      go_wp2_with fail
      refine (P.out _).mono ?_
      rintro e w' ⟨rfl, rfl⟩
      go_wp2_with fail
      refine (C.out _).mono ?_
      rintro e w1 ⟨⟨bb, rfl⟩, hb1⟩
      go_wp2_with fail
      refine (W1.out _).mono ?_
      rintro e w2 ⟨rfl, hb2⟩
      have h2 : Below w'.heap.size w' w2 := hb1.trans (hb2.mono hb1.size)
      clear hb1 hb2
      go_wp2_with fail
      refine (W2.out _).mono ?_
      rintro e w3 ⟨rfl, hb3⟩
      have h3 : Below w'.heap.size w' w3 := h2.trans (hb3.mono h2.size)
      clear h2 hb3
      go_wp2_with fail
      rw [ECAT.out]
      refine (W3.out _).mono ?_
      rintro e w4 ⟨rfl, hb4⟩
      have h4 : Below w'.heap.size w' w4 := h3.trans (hb4.mono h3.size)
      clear h3 hb4
      go_wp2_with fail
      refine (HS.out _).mono ?_
      rintro e w5 ⟨rfl, rfl⟩
      go_wp2
      go_ret2
      exact ⟨rfl, h4⟩
    · by_cases ha : a = 0
      · subst ha
        have HF2 : Hid (par L = (0, 14)) := hide (by rw [HF.out]; rfl)
        clear HF
        go_enter Tryd.func17, Tryd.ntmps17
        go_wp2_with fail
        refine (P.out _).mono ?_
        rintro e w' ⟨rfl, rfl⟩
        go_wp2_with fail
        refine (C.out _).mono ?_
        rintro e w1 ⟨⟨bb, rfl⟩, hb1⟩
        go_wp2_with fail
        refine (W1.out _).mono ?_
        rintro e w2 ⟨rfl, hb2⟩
        have h2 : Below w'.heap.size w' w2 := hb1.trans (hb2.mono hb1.size)
        clear hb1 hb2
        go_wp2_with fail
        refine (W2.out _).mono ?_
        rintro e w3 ⟨rfl, hb3⟩
        have h3 : Below w'.heap.size w' w3 := h2.trans (hb3.mono h2.size)
        clear h2 hb3
        go_wp2_with fail
        rw [ECAT.out]
        refine (W3.out _).mono ?_
        rintro e w4 ⟨rfl, hb4⟩
        have h4 : Below w'.heap.size w' w4 := h3.trans (hb4.mono h3.size)
        clear h3 hb4
        go_wp2
        go_ret2
        exact ⟨ret_two (by rw [HF2.out]) (by rw [HF2.out]), h4⟩
      · have tz : ((a : Int) == 0) = false := by simp; omega
        have HS : Hid (∀ W : World, Calls Tryd.prog 37 #[.int .u64 a, .bool true] W fun e w' => e = .returned (.tuple #[.int .i64 (par L).1, .int .i64 (par L).2]) ∧ w' = W) := hide (fun W => by
          rw [HF.out]; unfold sgn
          by_cases h : a ≤ 9223372036854775808
          · simp only [h, ha, if_true, if_false]; exact signed_below a h W
          · simp only [h, ha, if_true, if_false]; exact signed_over a true (by omega) (by simp) W)
        clear HF
        go_enter Tryd.func17, Tryd.ntmps17
        go_wp2_with fail
        refine (P.out _).mono ?_
        rintro e w' ⟨rfl, rfl⟩
        go_wp2_with fail
        refine (C.out _).mono ?_
        rintro e w1 ⟨⟨bb, rfl⟩, hb1⟩
        go_wp2_with fail
        refine (W1.out _).mono ?_
        rintro e w2 ⟨rfl, hb2⟩
        have h2 : Below w'.heap.size w' w2 := hb1.trans (hb2.mono hb1.size)
        clear hb1 hb2
        go_wp2_with fail
        refine (W2.out _).mono ?_
        rintro e w3 ⟨rfl, hb3⟩
        have h3 : Below w'.heap.size w' w3 := h2.trans (hb3.mono h2.size)
        clear h2 hb3
        go_wp2_with fail
        rw [ECAT.out]
        refine (W3.out _).mono ?_
        rintro e w4 ⟨rfl, hb4⟩
        have h4 : Below w'.heap.size w' w4 := h3.trans (hb4.mono h3.size)
        clear h3 hb4
        go_wp2_with fail
        refine (HS.out _).mono ?_
        rintro e w5 ⟨rfl, rfl⟩
        go_wp2
        go_ret2
        exact ⟨rfl, h4⟩
end Go.Proofs.YtipeegjbfieknaaDoor.Mn

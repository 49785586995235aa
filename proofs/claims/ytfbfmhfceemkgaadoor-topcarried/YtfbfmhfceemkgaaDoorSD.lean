/- Check -/
import Derived.Test.YtfbfmhfceemkgaaDoorSC
namespace Go.Proofs.YtfbfmhfceemkgaaDoor
open Go.RowKit
/-- shipments whose orders are above a and rise, each right -/
def goodL : Int → List Sh → Bool
  | _, [] => true
  | a, x :: r => decide (a < x.od) && (orB x.od && (stB x.st && (decide (¬ x.st = 0) && goodL x.od r)))
def checkE (l : List Sh) : Int := if goodL 0 l = true then 0 else 2
theorem drop_getD (l : List Sh) (k : Nat) (h : k < l.length) : l.drop k = l.getD k Sh0 :: l.drop (k + 1) := by
  rw [List.drop_eq_getElem_cons h, List.getD_eq_getElem?_getD, List.getElem?_eq_getElem h]; rfl
theorem wrap64 {n : Int} (h : -9223372036854775808 ≤ n) (h' : n ≤ 9223372036854775807) : IntKind.i64.wrap n = n := by
  simp [IntKind.wrap_i64]; omega
set_option maxHeartbeats 1000000 in
theorem check_any (a : Option Addr) (len cap : Nat) (l : List Sh) (w : World) (h : IsH w a len cap l) : Calls Tryd.prog 16 #[.slice a len cap] w fun e w' => e = .returned (.int .i64 (checkE l)) ∧ Below w.heap.size w w' := by
  have HV := hide h
  have HLN := hide h.1
  have hcap := h.2.1
  have hcm : cap ≤ 9223372036854775807 := h.2.2.1
  have HT : Hid (checkE l = if goodL 0 l = true then 0 else 2) := hide rfl
  generalize checkE l = r at *
  have HB := hide (Below.refl w.heap.size w)
  have hcm' : (cap : Int) ≤ 9223372036854775807 := by omega
  clear h
  go_enter Tryd.func16, Tryd.ntmps16
  go_wp2
  go_loopw [3, 9] (fun q i wr => ∃ (k : Nat) (la : Int), k ≤ len ∧ q = .int .i64 la ∧ i = .int .i64 k ∧ Hid (goodL 0 l = goodL la (l.drop k)) ∧ Hid (Below w.heap.size w wr)) (fun _ i _ => len - (intOf i).toNat)
  case atStart => exact ⟨0, 0, by omega, rfl, rfl, hide (by simp), HB⟩
  case round =>
    obtain ⟨k, la, hk, rfl, rfl, HA, HW⟩ := hrel
    by_cases hlt : k < len
    · have HD := hide (drop_getD l k (by rw [HLN.out]; exact hlt))
      obtain ⟨bs, off, rfl, hbs, z0⟩ := (HV.out.below' HW.out).2.2.2.2.1 k hlt
      generalize hx : l.getD k Sh0 = x at *
      have HX := hide hx
      clear hx
      obtain ⟨x1, x2⟩ := x
      obtain ⟨z1, z2⟩ := z0
      simp only at z1 z2
      have HG : Hid (goodL 0 l = (decide (la < x1) && (orB x1 && (stB x2 && (decide (¬ x2 = 0) && goodL x1 (l.drop (k + 1))))))) := hide (by rw [HA.out, HD.out]; rfl)
      have HW1 : Hid (Below w.heap.size w (wr.alloc (.cells #[.int .i64 x1, .int .u8 x2] 55))) := hide (HW.out.alloc HW.out.size _)
      have HOR := hide (or_any x1)
      have HST := hide (st_any x2)
      generalize orB x1 = b1 at *
      generalize stB x2 = b2 at *
      clear HA HD
      by_cases h1 : la < x1
      · have H1 := hide h1
        cases b1
        · go_wp2_with (first | (go_at_call 17; refine (HOR.out _).mono ?_; rintro e w' ⟨rfl, rfl⟩) | (go_at_call 26; refine (HST.out _).mono ?_; rintro e w' ⟨rfl, rfl⟩))
          go_ret
          exact ⟨ret_int (by rw [HT.out, HG.out]; simp), HW1.out⟩
        cases b2
        · go_wp2_with (first | (go_at_call 17; refine (HOR.out _).mono ?_; rintro e w' ⟨rfl, rfl⟩) | (go_at_call 26; refine (HST.out _).mono ?_; rintro e w' ⟨rfl, rfl⟩))
          go_ret
          exact ⟨ret_int (by rw [HT.out, HG.out]; simp), HW1.out⟩
        by_cases h2 : x2 = 0
        · subst h2
          go_wp2_with (first | (go_at_call 17; refine (HOR.out _).mono ?_; rintro e w' ⟨rfl, rfl⟩) | (go_at_call 26; refine (HST.out _).mono ?_; rintro e w' ⟨rfl, rfl⟩))
          go_ret
          exact ⟨ret_int (by rw [HT.out, HG.out]; simp), HW1.out⟩
        · have H2 := hide h2
          go_wp2_with (first | (go_at_call 17; refine (HOR.out _).mono ?_; rintro e w' ⟨rfl, rfl⟩) | (go_at_call 26; refine (HST.out _).mono ?_; rintro e w' ⟨rfl, rfl⟩))
          go_roundw
          case rel => exact ⟨k + 1, x1, by omega, rfl, by simp, hide (by rw [HG.out]; simp [H1.out, H2.out]), HW1⟩
          case measure => simp [intOf]; omega
      · have H1 := hide h1
        go_wp2_with (first | (go_at_call 17; refine (HOR.out _).mono ?_; rintro e w' ⟨rfl, rfl⟩) | (go_at_call 26; refine (HST.out _).mono ?_; rintro e w' ⟨rfl, rfl⟩))
        go_ret
        exact ⟨ret_int (by rw [HT.out, HG.out, decide_eq_false (by have := H1.out; omega)]; simp), HW1.out⟩
    · obtain rfl : k = len := by omega
      have HE : Hid (goodL 0 l = true) := hide (by rw [HA.out, List.drop_of_length_le (by rw [HLN.out]; omega)]; rfl)
      go_wp2
      go_ret
      exact ⟨ret_int (by rw [HT.out, HE.out]; simp), HW.out⟩
end Go.Proofs.YtfbfmhfceemkgaaDoor

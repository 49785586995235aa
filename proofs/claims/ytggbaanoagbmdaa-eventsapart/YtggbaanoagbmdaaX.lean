/- the document's Marked -/
import Derived.Test.YtggbaanoagbmdaaW
import Derived.Test.YtggbaanoagbmdaaS
namespace Go.Proofs.Ytggbaanoagbmdaa
open Go.RowKit
theorem find_take {α : Type} {p : α → Bool} {zs : List α} {k : Nat} {d : α} (hk : k < zs.length) (hn : ∀ j, j < k → p (zs.getD j d) = false) (hx : p (zs.getD k d) = true) : zs.find? p = some (zs.getD k d) := by
  refine find_snoc (pre := zs.take k) (by rw [← take_snoc zs k d hk]; exact List.take_prefix _ _) (fun y hy => ?_) hx
  obtain ⟨j, hj, rfl⟩ := List.mem_iff_getElem.1 hy
  rw [List.length_take] at hj
  have := hn j (by omega)
  rw [List.getD_eq_getElem?_getD, List.getElem?_eq_getElem (by omega)] at this
  simpa using this
set_option maxRecDepth 40000 in
set_option maxHeartbeats 1000000 in
/-- the document's Marked -/
theorem rmarkd_any (a : Option Addr) (len cap : Nat) (l : List Ev) (s m : ByteArray) (w : World) (h : IsE w a len cap l) (hbig : len * 64 ≤ 140737488355328) :
    Calls Try.prog 21 #[.slice a len cap, .string s, .string m] w fun e w' => e = .returned (.tuple #[.int .i64 (markR l s m).1, .int .i64 (markR l s m).2]) ∧ Below w.heap.size w w' := by
  have HV := hide h
  have CK := hide (rcheck_any a len cap l w h)
  have HBIG := hide hbig
  clear h hbig
  cases hg : goodB l
  case false =>
    have HE : Hid (checkE l = 2) := hide (by unfold checkE; rw [hg]; rfl)
    have HR : Hid (markR l s m = (0, 2)) := hide (by unfold markR; rw [if_pos hg])
    clear hg
    go_enter Try.func21, Try.ntmps21
    go_wp2_with fail
    refine CK.out.mono ?_
    rintro e w1 ⟨rfl, hb1⟩
    rw [HE.out]
    have HB1 := hide hb1
    clear hb1
    go_wp2
    go_ret2
    rw [HR.out]
    exact ⟨rfl, HB1.out⟩
  case true =>
    have HE : Hid (checkE l = 0) := hide (by unfold checkE; rw [hg]; rfl)
    have HR : Hid (markR l s m = (markAt l s m, 0)) := hide (by unfold markR; rw [if_neg (by rw [hg]; simp)])
    clear hg
    cases hm : m.toList.isEmpty
    case true =>
      have HM0 : Hid (markAt l s m = 0) := hide (mark_empty hm)
      go_enter Try.func21, Try.ntmps21
      go_wp2_with fail
      refine CK.out.mono ?_
      rintro e w1 ⟨rfl, hb1⟩
      rw [HE.out]
      have HB1 := hide hb1
      clear hb1
      go_wp2
      go_ret2
      rw [HR.out, HM0.out]
      exact ⟨rfl, HB1.out⟩
    case false =>
      have HMA : Hid (markAt l s m = (((l.filter (isOf s)).find? (hasM m)).map (·.num)).getD 0) := hide (by unfold markAt; rw [if_neg (by simpa using hm)])
      go_enter Try.func21, Try.ntmps21
      go_wp2_with fail
      refine CK.out.mono ?_
      rintro e w1 ⟨rfl, hb1⟩
      rw [HE.out]
      have HB1 := hide hb1
      clear hb1
      have CO := hide (rof_any a len cap l s w1 (HV.out.below' HB1.out) HBIG.out)
      go_wp2_with fail
      refine CO.out.mono ?_
      rintro e w2 ⟨v, rfl, hown, hb2⟩
      obtain ⟨a2, c2, rfl, hI, _⟩ := own_isE rfl (fun x hx => HV.out.2.2.2.1 x (List.mem_filter.1 hx).1) hown
      have HI := hide hI
      have hc2 := hI.2.1
      have hc2m : c2 ≤ 9223372036854775807 := hI.2.2.1
      have HB2 : Hid (Below w.heap.size w w2) := hide (HB1.out.trans (hb2.mono HB1.out.size))
      clear hown hI hb2 CO CK
      generalize l.filter (isOf s) = zs at *
      go_wp2
      go_loopw [24] (fun i wr => ∃ (k : Nat), k ≤ zs.length ∧ i = .int .i64 k ∧ Hid (∀ j, j < k → hasM m (zs.getD j Ev0) = false) ∧ Hid (Below w2.heap.size w2 wr)) (fun i _ => zs.length - (intOf i).toNat)
      case atStart => exact ⟨0, Nat.zero_le _, rfl, hide (fun j hj => by omega), hide (Below.refl _ _)⟩
      case round =>
        obtain ⟨k, hk, rfl, HA, HB⟩ := hrel
        have HBW : Hid (∀ W, Below w2.heap.size w2 W → Below w.heap.size w W) := hide (fun W hW => HB2.out.trans (hW.mono HB2.out.size))
        by_cases hlt : k < zs.length
        case neg =>
          obtain rfl : k = zs.length := by omega
          have HN : Hid (markAt l s m = 0) := hide (by
            rw [HMA.out, List.find?_eq_none.2 (fun y hy => by
              obtain ⟨j, hj, rfl⟩ := List.mem_iff_getElem.1 hy
              have := HA.out j hj
              rw [List.getD_eq_getElem?_getD, List.getElem?_eq_getElem hj] at this
              simpa using this)]
            rfl)
          go_wp2
          go_ret2
          rw [HR.out, HN.out]
          exact ⟨rfl, HBW.out _ HB.out⟩
        case pos =>
          obtain ⟨bb, off, rfl, hbb, z0, z1, z2, z3, z4⟩ := (HI.out.below' HB.out).2.2.2.2 k hlt
          have HFT := hide (find_take (p := hasM m) (d := Ev0) hlt HA.out)
          generalize hx : zs.getD k Ev0 = x at *
          have HX := hide hx
          clear hx
          have HAL := hide (fun o : Obj => HB.out.alloc HB.out.size o)
          by_cases heq : x.ma.toList = m.toList
          case pos =>
            have hq : (x.ma.toList == m.toList) = true := by simpa using heq
            have HN : Hid (markAt l s m = x.num) := hide (by rw [HMA.out, HFT.out (decide_eq_true heq)]; rfl)
            go_wp2
            go_ret2
            rw [HR.out, HN.out]
            exact ⟨rfl, HBW.out _ (HAL.out _)⟩
          case neg =>
            have hq : (x.ma.toList == m.toList) = false := by simpa using heq
            go_wp2
            go_roundw
            case rel => exact ⟨k + 1, by omega, by simp, hide (fun j hj => by
              by_cases e : j = k
              · rw [e, HX.out]; exact decide_eq_false heq
              · exact HA.out j (by omega)), hide (HAL.out _)⟩
            case measure => simp [intOf]; omega
end Go.Proofs.Ytggbaanoagbmdaa

/- EventsParts: the walk -/
import Derived.Test.YtggbaanoagbmdaaP
namespace Go.Proofs.Ytggbaanoagbmdaa
open Go.RowKit
theorem isT_take {w : World} {b : Option Addr} {dl dc : Nat} {data : List ByteArray} (h : IsT w b dl dc data) (k : Nat) (hk : k ≤ dl) : IsT w b k dc (data.take k) := by
  refine ⟨by rw [List.length_take, h.1]; omega, Nat.le_trans hk h.2.1, h.2.2.1, fun x hx => h.2.2.2.1 x (List.mem_of_mem_take hx), fun i hi => ?_⟩
  obtain ⟨bb, off, e, hlt, hc⟩ := h.2.2.2.2 i (by omega)
  refine ⟨bb, off, e, hlt, ?_⟩
  rw [hc, List.getD_eq_getElem?_getD, List.getD_eq_getElem?_getD, List.getElem?_take, if_pos hi]
theorem isT_drop {w : World} {bb off dl dc : Nat} {data : List ByteArray} (h : IsT w (some ⟨bb, off, none⟩) dl dc data) (k : Nat) (hk : k ≤ dl) : IsT w (some ⟨bb, off + k, none⟩) (dl - k) (dc - k) (data.drop k) := by
  have h2 := h.2.1
  have h3 := h.2.2.1
  refine ⟨by rw [List.length_drop, h.1], by omega, by omega, fun x hx => h.2.2.2.1 x (List.mem_of_mem_drop hx), fun i hi => ?_⟩
  obtain ⟨b', off', e, hlt, hc⟩ := h.2.2.2.2 (k + i) (by omega)
  cases e
  refine ⟨bb, off + k, rfl, hlt, ?_⟩
  rw [Nat.add_assoc, hc, List.getD_eq_getElem?_getD, List.getD_eq_getElem?_getD, List.getElem?_drop]
theorem isT_empty {w : World} {b : Option Addr} {dc : Nat} (h : dc ≤ maxLen) : IsT w b 0 dc [] := ⟨rfl, Nat.zero_le _, h, by simp, fun i hi => by omega⟩
set_option maxRecDepth 40000 in
set_option maxHeartbeats 1000000 in
/-- EventsParts -/
theorem law_parts (a : Option Addr) (len cap : Nat) (l : List Ev) (s : ByteArray) (b : Option Addr) (dl dc : Nat) (data : List ByteArray) (at_ : Int) (w : World) (h : IsE w a len cap l) (hs : s.size ≤ maxLen) (hd : IsT w b dl dc data) (hdl : dl ≤ 140737488355328) (hsp : dc = 0 ∨ ∃ bb off, b = some ⟨bb, off, none⟩) :
    Calls Try.prog 9 #[.slice a len cap, .string s, .slice b dl dc, .int .i64 at_] w fun e w' => e = .returned (.bool true) ∧ Below w.heap.size w w' := by
  have HV := hide h
  have HD := hide hd
  have HS := hide hs
  have HDN := hide hd.1
  have HDL := hide hdl
  have hdc := hd.2.1
  have hcm : dc ≤ 9223372036854775807 := hd.2.2.1
  clear h hd hs hdl
  go_enter Try.func9, Try.ntmps9
  go_wp2_with fail
  refine (lives_any w).mono ?_
  rintro e w1 ⟨rfl, hb1⟩
  have HB1 := hide hb1
  clear hb1
  by_cases h1 : at_ < 0
  case pos =>
    have d1 : decide (at_ < 0) = true := decide_eq_true h1
    go_wp2
    go_ret
    exact ⟨rfl, HB1.out⟩
  case neg =>
    obtain ⟨k, rfl⟩ := Int.eq_ofNat_of_zero_le (show (0 : Int) ≤ at_ by omega)
    by_cases h2 : dl < k
    case pos =>
      have d2 : decide ((dl : Int) < (k : Int)) = true := decide_eq_true (by omega)
      go_wp2
      go_ret
      exact ⟨rfl, HB1.out⟩
    case neg =>
      have d2 : decide ((dl : Int) < (k : Int)) = false := decide_eq_false (by omega)
      have hk : k ≤ dl := by omega
      have C1 := hide (append_any a len cap l s (-1) b0 b dl dc data w1 (HV.out.below' HB1.out) (HD.out.below' HB1.out) HS.out (by decide) HDL.out)
      go_wp2_with fail
      refine C1.out.mono ?_
      rintro e w2 ⟨a2, c2, rfl, hI2, hb2⟩
      have HI2 := hide hI2
      have HB2 : Hid (Below w.heap.size w w2) := hide (HB1.out.trans (hb2.mono HB1.out.size))
      clear hI2 hb2 C1
      have HP1 := hide (parts1 (l := l) (s := s) (data := data) k)
      have HP2 := hide (parts2 (l := l) (s := s) (data := data) (k := k) (by rw [HDN.out]; exact hk))
      generalize hA : appR l s (-1) b0 data = A at *
      have HAE := hide hA
      clear hA
      have HTK : Hid (∀ W, Below w.heap.size w W → IsT W b k dc (data.take k)) := hide (fun W hW => isT_take (HD.out.below' hW) k hk)
      have C2 := hide (append_any a len cap l s (-1) b0 _ _ _ _ w2 (HV.out.below' HB2.out) (HTK.out w2 HB2.out) HS.out (by decide) (by have := HDL.out; omega))
      generalize appR l s (-1) b0 (data.take k) = B at *
      obtain ⟨Al, An, Ae⟩ := A
      obtain ⟨Bl, Bn, Be⟩ := B
      dsimp only at HP1 HP2 HI2 C2 ⊢
      have HDP : Hid (∀ W, Below w.heap.size w W → (∀ bb off, b = some ⟨bb, off, none⟩ → IsT W (some ⟨bb, off + k, none⟩) (dl - k) (dc - k) (data.drop k)) ∧ (k = 0 → IsT W b dl dc (data.drop k))) := hide (fun W hW => ⟨fun bb off e => by
        have h := HD.out.below' hW
        rw [e] at h
        exact isT_drop h k hk, fun e0 => by
        have h := HD.out.below' hW
        rw [e0]
        simpa using h⟩)
      have hsp3 : dc = 0 ∨ (∃ bb off, b = some ⟨bb, off, none⟩ ∧ k < dc) ∨ (∃ bb off, b = some ⟨bb, off, none⟩ ∧ k = dl ∧ dl = dc) := by
        rcases hsp with h | ⟨bb, off, h⟩
        · exact .inl h
        · by_cases hk2 : k < dc
          · exact .inr (.inl ⟨bb, off, h, hk2⟩)
          · exact .inr (.inr ⟨bb, off, h, by omega, by omega⟩)
      clear hsp
      rcases hsp3 with rfl | ⟨bb, off, rfl, hk2⟩ | ⟨bb, off, rfl, rfl, rfl⟩
      case' inl =>
        obtain rfl : dl = 0 := by omega
        obtain rfl : k = 0 := by omega
        have HTD : Hid (∀ W, Below w.heap.size w W → IsT W b 0 0 (data.drop 0)) := hide (fun W hW => (HDP.out W hW).2 rfl)
        cases b
      case' inr.inl =>
        have HTD : Hid (∀ W, Below w.heap.size w W → IsT W (some ⟨bb, off + k, none⟩) (dl - k) (dc - k) (data.drop k)) := hide (fun W hW => (HDP.out W hW).1 bb off rfl)
      case' inr.inr =>
        have HTD : Hid (∀ W, Below w.heap.size w W → IsT W (some ⟨bb, off, none⟩) 0 0 (data.drop k)) := hide (fun W hW => by
          rw [List.drop_of_length_le (by rw [HDN.out]; exact Nat.le_refl _)]
          exact isT_empty (Nat.zero_le _))
      all_goals go_wp2_with fail
      all_goals
        refine C2.out.mono ?_
        rintro e w3 ⟨a3, c3, rfl, hI3, hb3⟩
        have HI3 := hide hI3
        have HB3 : Hid (Below w.heap.size w w3) := hide (HB2.out.trans (hb3.mono HB2.out.size))
        have HI23 : Hid (IsE w3 a2 Al.length c2 Al) := hide (HI2.out.below' hb3)
        clear hI3 hb3
        by_cases hAe : Ae = 0
        case neg =>
          have hAd : decide (Ae = 0) = false := decide_eq_false hAe
          have hAb : (Ae == 0) = false := by simpa using hAe
          go_wp2
          all_goals
            go_ret
            refine ⟨?_, HB3.out⟩
            first
            | rfl
            | simp [hAe]
        case pos =>
          subst hAe
          have HBe : Hid (Be = 0) := hide (Classical.byContradiction (fun hc => HP1.out hc rfl))
          have HC := hide (HP2.out rfl)
          clear HP1 HP2 C2
          obtain rfl : Be = 0 := HBe.out
          have C3 := hide (append_any a3 Bl.length c3 Bl s (-1) b0 _ _ _ _ w3 HI3.out (HTD.out w3 HB3.out) HS.out (by decide) (by have := HDL.out; omega))
          rw [HC.out] at C3
          go_wp2_with fail
          refine C3.out.mono ?_
          rintro e w4 ⟨a4, c4, rfl, hI4, hb4⟩
          dsimp only at hI4 ⊢
          have HB4 : Hid (Below w.heap.size w w4) := hide (HB3.out.trans (hb4.mono HB3.out.size))
          have C4 := hide (same_any a2 Al.length c2 Al a4 Al.length c4 Al w4 (HI23.out.below' hb4) hI4)
          clear hI4 hb4 C3
          go_wp2_with fail
          refine C4.out.mono ?_
          rintro e w5 ⟨⟨r, rfl, hr⟩, hb5⟩
          obtain rfl : r = true := by simpa using hr
          have HB5 : Hid (Below w.heap.size w w5) := hide (HB4.out.trans (hb5.mono HB4.out.size))
          clear hb5 hr
          go_wp2
          go_ret
          exact ⟨rfl, HB5.out⟩
end Go.Proofs.Ytggbaanoagbmdaa
namespace Go.Proofs.Ytggbaanoagbmdaa.eventsParts
open Go.RowKit
theorem lawWalk (a0 : Option Addr) (len0 cap0 : Nat) (l0 : List Ev) (s1 : ByteArray) (a2 : Option Addr) (len2 cap2 : Nat) (l2 : List ByteArray) (n3 : Int) (W : World) (w0 : IsE W a0 len0 cap0 l0) (_ : len0 * 64 ≤ 140737488355328) (h1 : s1.size ≤ 140737488351232) (w2 : IsT W a2 len2 cap2 l2) (h2 : len2 ≤ 140737488355328 ∧ (cap2 = 0 ∨ ∃ b off, a2 = some ⟨b, off, none⟩)) (_ : (Lit.int .i64 n3).wf = true) :
    Calls Try.prog 9 #[.slice a0 len0 cap0, .string s1, .slice a2 len2 cap2, .int .i64 n3] W fun e W' => e = .returned (.bool true) ∧ Below W.heap.size W W' :=
  law_parts a0 len0 cap0 l0 s1 a2 len2 cap2 l2 n3 W w0 (by show _ ≤ 9223372036854775807; omega) w2 h2.1 h2.2
end Go.Proofs.Ytggbaanoagbmdaa.eventsParts

/- mvcc.needed -/
import Derived.Test.YtlkmcbelmldleaaGreatVM
namespace Go.Proofs.YtlkmcbelmldleaaGreat
open Go.RowKit Go.Shelf
set_option maxRecDepth 40000
/-- without what is old: all but the last of those up to a time -/
def dropOld (low : Nat) : List Vr → List Vr
  | [] => []
  | [x] => [x]
  | x :: y :: r => if y.at_ ≤ low then dropOld low (y :: r) else x :: y :: r
/-- those of a key's versions that are still seen -/
def needL (low : Nat) (g : List Vr) : List Vr :=
  match dropOld low g with
  | [] => []
  | x :: r => if x.gone = true ∧ x.at_ ≤ low then r else x :: r
theorem old_step {low : Nat} {l : List Vr} {s : Nat} (h : s + 1 < l.length) (hy : (l.getD (s + 1) Vr0).at_ ≤ low) : dropOld low (l.drop s) = dropOld low (l.drop (s + 1)) := by
  rw [drop_getD l s (by omega), drop_getD l (s + 1) h]
  simp only [dropOld, if_pos hy]
theorem old_stop {low : Nat} {l : List Vr} {s : Nat} (h : s + 1 < l.length) (hy : ¬ (l.getD (s + 1) Vr0).at_ ≤ low) : dropOld low (l.drop s) = l.drop s := by
  rw [drop_getD l s (by omega), drop_getD l (s + 1) h]
  simp only [dropOld, if_neg hy]
theorem old_one {low : Nat} {l : List Vr} {s : Nat} (h : s + 1 = l.length) : dropOld low (l.drop s) = l.drop s := by
  rw [drop_getD l s (by omega), List.drop_of_length_le (by omega : l.length ≤ s + 1)]
  rfl
set_option maxRecDepth 40000 in
set_option maxHeartbeats 2000000 in
theorem needed_any (b off len cap low : Nat) (l : List Vr) (w : World) (hL : IsV w (some ⟨b, off, none⟩) len cap l) (h0 : 0 < len) : Calls Tryz.prog 118 #[.slice (some ⟨b, off, none⟩) len cap, .int .u64 (low : Nat)] w fun e w' =>
    w' = w ∧ ∃ o' c', e = .returned (.slice (some ⟨b, o', none⟩) (needL low l).length c') ∧ IsV w (some ⟨b, o', none⟩) (needL low l).length c' (needL low l) := by
  have HV := hide hL
  have HLN := hide hL.1
  have hcap := hL.2.1
  have hcm : cap ≤ 9223372036854775807 := hL.2.2.1
  have HC : Hid (∀ i, i < len → w.cell? ⟨b, off + i * 4 + 1, none⟩ = some (.int .u64 ((l.getD i Vr0).at_ : Nat)) ∧ w.cell? ⟨b, off + i * 4 + 3, none⟩ = some (.bool (l.getD i Vr0).gone)) := hide (fun i hi => by
    obtain ⟨b', off', e, _, _, z1, _, z3⟩ := hL.2.2.2 i hi
    cases e
    exact ⟨z1, z3⟩)
  clear hL
  go_enter Tryz.func118, Tryz.ntmps118
  go_wp2
  go_loopw [0] (fun v wr => ∃ s rem cs : Nat, s + rem = len ∧ 0 < rem ∧ cs = cap - s ∧ v = .slice (some ⟨b, off + s * 4, none⟩) rem cs ∧ wr = w ∧ Hid (dropOld low l = dropOld low (l.drop s))) (fun v _ => match v with | .slice _ n _ => n | _ => 0)
  case atStart => exact ⟨0, len, cap, by omega, h0, by omega, by simp, rfl, hide (by rw [List.drop_zero])⟩
  case round =>
    obtain ⟨s, rem, cs, hs, hr, hcs, rfl, rfl, HD⟩ := hrel
    have hrc : rem ≤ cs := by omega
    have hcsm : cs ≤ 9223372036854775807 := by omega
    have HCS := hide hcs
    clear hcs
    by_cases hgo : 1 < rem ∧ (l.getD (s + 1) Vr0).at_ ≤ low
    · have z1 := (HC.out (s + 1) (by omega)).1
      rw [show off + (s + 1) * 4 + 1 = off + s * 4 + 4 + 1 by omega] at z1
      have HST := hide (old_step (low := low) (l := l) (s := s) (by rw [HLN.out]; omega) hgo.2)
      have HH := hide hgo
      have hd1 : decide (((l.getD (s + 1) Vr0).at_ : Int) ≤ (low : Int)) = true := decide_eq_true (by have := hgo.2; omega)
      have hd2 : decide ((l.getD (s + 1) Vr0).at_ ≤ low) = true := decide_eq_true hgo.2
      have hr1 : (1 : Int) < (rem : Int) := by omega
      have hr2 : (1 : Int) ≤ (rem : Int) := by omega
      have hc1 : (1 : Int) ≤ (cs : Int) := by omega
      have hc2 : ¬ cs = 1 := by omega
      have hgl := hgo.1
      clear hgo
      generalize l.getD (s + 1) Vr0 = y at *
      generalize hO : off + s * 4 = o at *
      have HO := hide hO
      clear hO
      go_wp2
      go_roundw
      case rel => exact ⟨s + 1, rem - 1, cs - 1, by omega, by omega, by have := HCS.out; omega, by rw [← HO.out, show off + (s + 1) * 4 = off + s * 4 + 4 by omega], trivial, hide (HD.out.trans HST.out)⟩
      case measure => simp; omega
    · have HEND : Hid (dropOld low l = l.drop s) := hide (HD.out.trans (by
        by_cases h : 1 < rem
        · exact old_stop (by rw [HLN.out]; omega) (fun hy => hgo ⟨h, hy⟩)
        · exact old_one (by rw [HLN.out]; omega)))
      have HN1 : Hid (needL low l = if (l.getD s Vr0).gone = true ∧ (l.getD s Vr0).at_ ≤ low then l.drop (s + 1) else l.drop s) := hide (by
        unfold needL
        rw [HEND.out, drop_getD l s (by rw [HLN.out]; omega)])
      have HSUB : Hid (∀ s' m, s' + m = len → IsV wr (some ⟨b, off + s' * 4, none⟩) m (cap - s') (l.drop s')) := hide (fun s' m h => by
        have := HV.out.sub s' m (by omega)
        rw [List.take_of_length_le (by rw [List.length_drop, HLN.out]; omega)] at this
        exact this)
      have HLD : Hid (∀ s', (l.drop s').length = len - s') := hide (fun s' => by rw [List.length_drop, HLN.out])
      obtain ⟨z1, z3⟩ := HC.out s (by omega)
      have hr0 : (0 : Int) < (rem : Int) := by omega
      have hr2 : (1 : Int) ≤ (rem : Int) := by omega
      have hc1 : (1 : Int) ≤ (cs : Int) := by omega
      have HHO : Hid (off + s * 4 + 4 = off + (s + 1) * 4) := hide (by omega)
      have HRE : Hid (∀ o' c', c' ≤ 9223372036854775807 → IsV wr (some ⟨b, o', none⟩) 0 c' []) := hide (fun o' c' h => ⟨rfl, Nat.zero_le _, h, fun i hi => absurd hi (Nat.not_lt_zero _)⟩)
      have hend : (rem = 1 ∧ ¬ (1 : Int) < (rem : Int)) ∨ ((1 < rem ∧ (1 : Int) < (rem : Int)) ∧ wr.cell? ⟨b, off + s * 4 + 4 + 1, none⟩ = some (.int .u64 ((l.getD (s + 1) Vr0).at_ : Nat)) ∧ ¬ (l.getD (s + 1) Vr0).at_ ≤ low) := by
        by_cases h : 1 < rem
        · right
          refine ⟨⟨h, by omega⟩, ?_, fun hy => hgo ⟨h, hy⟩⟩
          have := (HC.out (s + 1) (by omega)).1
          rwa [show off + (s + 1) * 4 + 1 = off + s * 4 + 4 + 1 by omega] at this
        · exact .inl ⟨by omega, by omega⟩
      have HFIN : Hid (∀ o' c' m (q : List Vr), needL low l = q → m = q.length → IsV wr (some ⟨b, o', none⟩) m c' q → ∃ o'' c'', Ending.returned (.slice (some ⟨b, o', none⟩) m c') = .returned (.slice (some ⟨b, o'', none⟩) (needL low l).length c'') ∧ IsV wr (some ⟨b, o'', none⟩) (needL low l).length c'' (needL low l)) := hide (fun o' c' m q h1 h2 h3 => by
        subst h2; rw [h1]; exact ⟨o', c', rfl, h3⟩)
      clear hgo HD HC
      generalize hO : off + s * 4 = o at *
      have HO := hide hO
      clear hO
      generalize l.getD s Vr0 = x at *
      generalize l.getD (s + 1) Vr0 = y at *
      obtain ⟨x1, x2, x3, x4⟩ := x
      dsimp only at z1 z3 HN1
      have HS0 : Hid (IsV wr (some ⟨b, o, none⟩) rem cs (l.drop s)) := hide (by rw [HCS.out, ← HO.out]; exact HSUB.out s rem hs)
      have HS1 : Hid (0 < rem → IsV wr (some ⟨b, o + 4, none⟩) (rem - 1) (cs - 1) (l.drop (s + 1))) := hide (fun h => by
        have h2 := HSUB.out (s + 1) (rem - 1) (by omega)
        rw [HHO.out]
        rw [show cs - 1 = cap - (s + 1) by rw [HCS.out]; omega]
        exact h2)
      have HL0 : Hid (rem = (l.drop s).length) := hide (by rw [HLD.out]; omega)
      have HL1 : Hid (rem - 1 = (l.drop (s + 1)).length) := hide (by rw [HLD.out]; omega)
      have HZ : Hid (rem = 1 → l.drop (s + 1) = []) := hide (fun h => List.drop_of_length_le (by rw [HLN.out]; omega))
      clear HSUB HLD
      cases x4
      · have HQ : Hid (needL low l = l.drop s) := hide (by rw [HN1.out, if_neg (by simp)])
        clear HN1
        rcases hend with ⟨e1, e2⟩ | ⟨⟨e1, e2⟩, e3, e4⟩
        · subst e1
          go_wp2
          go_ret
          exact ⟨rfl, HFIN.out _ _ _ _ HQ.out HL0.out HS0.out⟩
        · have e4I : ¬ ((y.at_ : Int) ≤ (low : Int)) := by omega
          go_wp2
          go_ret
          exact ⟨rfl, HFIN.out _ _ _ _ HQ.out HL0.out HS0.out⟩
      · by_cases hle : x2 ≤ low
        · have hleI : (x2 : Int) ≤ (low : Int) := by omega
          have HQ : Hid (needL low l = l.drop (s + 1)) := hide (by rw [HN1.out, if_pos ⟨rfl, hle⟩])
          clear HN1
          rcases hend with ⟨e1, e2⟩ | ⟨⟨e1, e2⟩, e3, e4⟩
          · subst e1
            go_wp2
            all_goals go_ret
            all_goals exact ⟨rfl, HFIN.out _ _ _ _ (HQ.out.trans (HZ.out trivial)) rfl (HRE.out _ _ (by omega))⟩
          · have e4I : ¬ ((y.at_ : Int) ≤ (low : Int)) := by omega
            have hc2 : ¬ cs = 1 := by omega
            go_wp2
            go_ret
            exact ⟨rfl, HFIN.out _ _ _ _ HQ.out HL1.out (HS1.out (by omega))⟩
        · have hleI : ¬ (x2 : Int) ≤ (low : Int) := by omega
          have HQ : Hid (needL low l = l.drop s) := hide (by rw [HN1.out, if_neg (by simp; omega)])
          clear HN1
          rcases hend with ⟨e1, e2⟩ | ⟨⟨e1, e2⟩, e3, e4⟩
          · subst e1
            go_wp2
            go_ret
            exact ⟨rfl, HFIN.out _ _ _ _ HQ.out HL0.out HS0.out⟩
          · have e4I : ¬ ((y.at_ : Int) ≤ (low : Int)) := by omega
            go_wp2
            go_ret
            exact ⟨rfl, HFIN.out _ _ _ _ HQ.out HL0.out HS0.out⟩
end Go.Proofs.YtlkmcbelmldleaaGreat

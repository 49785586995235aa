/- contracts: the document's ReadKey -/
import Derived.Test.YtnimlpbalfamcaaY
namespace Go.Proofs.Ytnimlpbalfamcaa
open Go.RowKit Cod
set_option maxRecDepth 10000 in
set_option maxHeartbeats 4000000 in
/-- ladingref03.ReadKey -/
theorem refReadKey_any (a : Option Addr) (len cap : Nat) (l : List Nat) (w : World) (h : IsB w a len cap l) :
    Calls Try.prog 29 #[.slice a len cap] w fun e w' =>
      ((∃ ps a' c', rdKey l = .ok ps ∧ e = .returned (.tuple #[.slice a' ps.length c', .int .i64 0]) ∧ IsP w' a' ps.length c' ps) ∨
       (∃ k : Nat, rdKey l = .error k ∧ k ≠ 0 ∧ e = .returned (.tuple #[.slice none 0 0, .int .i64 k]))) ∧ Below w.heap.size w w' := by
  obtain ⟨i0, hi, hz0, hz1, hz2⟩ := info_parts Try.info60
  have hlen := hide h.1
  have Hxs := hide h.2.2.2.1
  have hcl : len ≤ cap := h.2.1
  have hcm : cap ≤ 9223372036854775807 := h.2.2.1
  have H := hide h
  by_cases h256 : 256 < len
  · have HN : Hid (rdKey l = .error 4) := hide (by unfold rdKey; rw [if_pos (by have := hlen.out; omega)])
    clear h
    go_enter Try.func29, Try.ntmps29
    go_wp2
    go_ret2
    exact ⟨.inr ⟨4, HN.out, by decide, rfl⟩, Below.refl _ _⟩
  have HL : Hid (¬ 256 < l.length) := hide (by have := hlen.out; omega)
  clear h
  go_enter Try.func29, Try.ntmps29
  go_wp2_with fail
  go_loopw [0, 4, 5, 6] (fun y x _ _ wr => ∃ (p k r cr : Nat) (ar : Option Addr) (acc : List Part), k ≤ p ∧ p + r = len ∧ y = .slice ar r cr ∧ Hid (IsB w ar r cr (l.drop p)) ∧ Hid (wr.ownsRow w.heap.size 60 3 x k (pvs acc)) ∧ Hid (rdAll l [] = rdAll (l.drop p) acc) ∧ Hid (Below w.heap.size w wr)) (fun y _ _ _ _ => match y with | .slice _ r _ => r | _ => 0)
  case atStart => exact ⟨0, 0, len, cap, a, [], by omega, by omega, rfl, H, hide (World.ownsRow_nil _ _ _ _), hide rfl, hide (Below.refl _ _)⟩
  case round =>
    obtain ⟨p, k, r, cr, ar, acc, hkp, hpr, rfl, HB, HO, HR, HBEL⟩ := hrel
    have hwz : w.heap.size ≤ wr.heap.size := HBEL.out.size
    have hrc : r ≤ cr := HB.out.2.1
    have hcrm : cr ≤ 9223372036854775807 := HB.out.2.2.1
    by_cases hr0 : r = 0
    · have HN : Hid (rdAll l [] = some acc) := hide (by rw [HR.out, List.drop_eq_nil_of_le (by have := hlen.out; omega), rdAll_nil])
      obtain ⟨a2, c2, rfl, hP⟩ := isP_of_owns HO.out (rdAll_okP Hxs.out HN.out)
      have HLk : Hid (acc.length = k) := hide hP.1
      have hkm : k ≤ 9223372036854775807 := Nat.le_trans hP.2.1 hP.2.2.1
      have HP := hide hP
      have d0 : decide ((0 : Int) < (r : Int)) = false := decide_eq_false (by omega)
      have d0' : decide (0 < r) = false := decide_eq_false (by omega)
      clear hr0 hP HO HR HB
      by_cases h16 : 16 < k
      · have HK : Hid (rdKey l = .error 3) := hide (by unfold rdKey; rw [if_neg HL.out, HN.out]; simp only; rw [if_pos (by rw [HLk.out]; exact h16)])
        go_wp2
        go_ret2
        exact ⟨.inr ⟨3, HK.out, by decide, rfl⟩, HBEL.out⟩
      · have HK : Hid (rdKey l = .ok acc) := hide (by unfold rdKey; rw [if_neg HL.out, HN.out]; simp only; rw [if_neg (by rw [HLk.out]; exact h16)])
        go_wp2
        go_ret2
        exact ⟨.inl ⟨acc, a2, c2, HK.out, by rw [HLk.out]; rfl, by rw [HLk.out]; exact HP.out⟩, HBEL.out⟩
    obtain ⟨b, off, rfl, hblt, _⟩ := HB.out.2.2.2.2.resolve_left (fun h => hr0 h.1)
    have RP := hide (refPart_some b off r cr (l.drop p) wr (HB.out.below HBEL.out) (by omega) (by omega))
    have HNE : Hid (l.drop p ≠ []) := hide (by intro e; have h1 := congrArg List.length e; have h2 := hlen.out; simp at h1; omega)
    have d0 : decide ((0 : Int) < (r : Int)) = true := decide_eq_true (by omega)
    have d0' : decide (0 < r) = true := decide_eq_true (by omega)
    go_wp2_with fail
    refine RP.out.mono ?_
    rintro e w3 ⟨(⟨pt, p3, hr3, hlt3, hp3, rfl⟩ | ⟨hr3, k3, n3, s3, rfl⟩), hb3⟩
    case inr =>
      have HN : Hid (rdKey l = .error 6) := hide (by unfold rdKey; rw [if_neg HL.out, HR.out, rdAll_no HNE.out hr3])
      have HB3 := hide (HBEL.out.trans (hb3.mono hwz))
      clear hr3 hb3 RP
      go_wp2
      go_ret2
      exact ⟨.inr ⟨6, HN.out, by decide, rfl⟩, HB3.out.alloc HB3.out.size _⟩
    have HR2 : Hid (rdAll l [] = rdAll (l.drop (p + p3)) (acc ++ [pt])) := hide (by rw [HR.out, rdAll_step hr3, List.drop_drop])
    have hb3' := HBEL.out.trans (hb3.mono hwz)
    have ho3 : w3.ownsRow w.heap.size 60 3 u4 k (pvs acc) := HO.out.kept (⟨hb3.os, hb3.tape, hb3.output, hb3.size, fun k hk _ => hb3.block k hk⟩ : wr.grownBy w3 none) (by cases u4.ownBlock <;> simp)
    have hz3 : w.heap.size ≤ w3.heap.size := hb3'.size
    have HB3 := hide hb3'
    have hpn : ((p3 : Int) == 0) = false := by simp; omega
    have HBN : Hid (∀ (cr' : Nat), IsB w (some ⟨b, off, none⟩) r cr' (l.drop p) → True) := hide (fun _ _ => trivial)
    clear hr3 hb3 hb3' RP HO HR HBEL HBN
    have fin : ∀ (W : World) (v : Value) (ar' : Option Addr) (cr' : Nat), IsB w ar' (r - p3) cr' (l.drop (p + p3)) → W.ownsRow w.heap.size 60 3 v (k + 1) (pvs (acc ++ [pt])) → Below w.heap.size w W → ∃ (p' k' r' cr2 : Nat) (ar2 : Option Addr) (acc' : List Part), k' ≤ p' ∧ p' + r' = len ∧ Value.slice ar' (r - p3) cr' = .slice ar2 r' cr2 ∧ Hid (IsB w ar2 r' cr2 (l.drop p')) ∧ Hid (W.ownsRow w.heap.size 60 3 v k' (pvs acc')) ∧ Hid (rdAll l [] = rdAll (l.drop p') acc') ∧ Hid (Below w.heap.size w W) := fun W v ar' cr' h1 h2 h3 => ⟨p + p3, k + 1, r - p3, cr', ar', acc ++ [pt], by omega, by omega, rfl, hide h1, hide h2, HR2, hide h3⟩
    have FIN := hide fin
    have HLEN3 : Hid ((l.drop (p + p3)).length = r - p3) := hide (by have := hlen.out; simp; omega)
    have HXD : Hid (∀ x ∈ l.drop (p + p3), x < 256) := hide (mem_drop Hxs.out)
    clear fin
    go_wp2_with (at_builtin; refine wpList_append_own _ rfl _ _ 38 rfl w.heap.size 60 i0 (.agg #[.int .u8 0, .int .u64 0, .string ⟨#[]⟩]) 3 32 Try.underlying38 hi hz0 hz1 hz2 rfl (by decide) u4 k (pvs acc) rfl ((ho3.alloc _).alloc _) ⟨w3.heap.size + 1, 0, none⟩ 1 1 (pv1 pt) rfl rfl (pv1_new1 _ _ _) (pv1_one _) ?c3 ?c4 ?c5 ?_)
    case c3 => unfold maxLen; omega
    case c4 => omega
    case c5 => simp; omega
    intro v5 w5 ho5 hg5 _
    rw [← pvs_snoc] at ho5
    have HB5 : Hid (Below w.heap.size w w5) := hide (((HB3.out.alloc hz3 _).alloc (by simp; omega) _).grown hg5 (by simp; omega) (fun j hj => (ho3.lt j hj).1))
    have HO5 := hide ho5
    clear hg5 ho3 ho5
    by_cases hcz : cr = p3
    · have hB6 := FIN.out w5 v5 (some ⟨b, off, none⟩) 0 ⟨HLEN3.out, by omega, Nat.zero_le _, HXD.out, .inl ⟨by omega, by intro h; cases h⟩⟩ HO5.out HB5.out
      have HF := hide hB6
      clear FIN hB6
      subst hcz
      have HZ : Hid (r - cr = 0) := hide (by omega)
      rw [HZ.out] at HF
      go_wp2
      go_roundw
      case rel => exact HF.out
      case measure => simp; omega
    · have hB6 := FIN.out w5 v5 (some ⟨b, off + p3, none⟩) (cr - p3) (by have := HB.out.back p3 (by omega); rw [List.drop_drop] at this; exact this) HO5.out HB5.out
      have HF := hide hB6
      clear FIN hB6
      go_wp2
      go_roundw
      case rel => exact HF.out
      case measure => simp; omega
end Go.Proofs.Ytnimlpbalfamcaa

/- LawFound NY -/
import Derived.Test.YtebikoekpbnpbaaNR
import Derived.Test.YtebikoekpbnpbaaNV
import Derived.Deep.QuietTactic
import Derived.BigQuiet
/- NodeFound: the walk -/
namespace Go.Proofs.Ytebikoekpbnpbaa
open Go.RowKit Go.Lib Cod
set_option maxRecDepth 100000
set_option linter.unusedVariables false
set_option linter.unusedSimpArgs false
theorem below_drewN {w : World} (k : Nat) : Below w.heap.size w (w.drewN k) := by
  first | exact (Below.refl _ w).drewN k | exact ⟨rfl, rfl, rfl, Nat.le_refl _, fun _ _ => rfl⟩ | (constructor <;> first | rfl | exact Nat.le_refl _ | (intros; rfl))
end Go.Proofs.Ytebikoekpbnpbaa
/- the document's Same, at pages that read the same -/
namespace Go.Proofs.Ytebikoekpbnpbaa
open Go.RowKit Cod
set_option maxRecDepth 100000
set_option linter.unusedVariables false
set_option linter.unusedSimpArgs false
set_option maxHeartbeats 4000000 in
theorem same_eq (v v' : Pv) (p : Pg) (w : World) (h : IsG w v p) (h' : IsG w v' p) :
    Calls Try.prog 22 #[.agg (pgc p.leaf v), .agg (pgc p.leaf v')] w fun e w' => e = .returned (.bool true) ∧ Below w.heap.size w w' := by
  obtain ⟨ka, kn, kc, va, vn, vc, ia, inn, ic⟩ := v
  obtain ⟨ka', kn', kc', va', vn', vc', ia', inn', ic'⟩ := v'
  obtain rfl : kn = kn' := h.keys.1.symm.trans h'.keys.1
  obtain rfl : vn = vn' := h.vals.1.symm.trans h'.vals.1
  obtain rfl : inn = inn' := h.kids.1.symm.trans h'.kids.1
  have HG := hide h
  have HG' := hide h'
  have hkm : kn ≤ 9223372036854775807 := Nat.le_trans h.keys.2.1 h.keys.2.2.1
  have hvm : vn ≤ 9223372036854775807 := Nat.le_trans h.vals.2.1 h.vals.2.2.1
  have him : inn ≤ 9223372036854775807 := Nat.le_trans h.kids.2.1 h.kids.2.2.1
  clear h h'
  generalize p.leaf = lf
  try dsimp only
  obtain ⟨V0, hV0⟩ : ∃ V0, V0 = (w.alloc (.cells #[.bool lf, .slice ka kn kc, .slice va vn vc, .slice ia inn ic] 25)).alloc (.cells #[.bool lf, .slice ka' kn kc', .slice va' vn vc', .slice ia' inn ic'] 25) := ⟨_, rfl⟩
  have HS : Hid (Below w.heap.size w V0 ∧ BlkG V0 w.heap.size lf ⟨ka, kn, kc, va, vn, vc, ia, inn, ic⟩ ∧ BlkG V0 (w.heap.size + 1) lf ⟨ka', kn, kc', va', vn, vc', ia', inn, ic'⟩) := hide (by
    refine ⟨by rw [hV0]; exact ((Below.refl _ w).alloc (Nat.le_refl _) _).alloc (by simp) _, ?_, ?_⟩
    · rw [hV0]
      show _ = _
      rw [heap_al, heap_al, World.size_alloc, if_neg (by omega), if_pos rfl]
    · rw [hV0]
      show _ = _
      rw [heap_al, World.size_alloc, if_pos rfl])
  obtain ⟨q0, q1, q2, q3⟩ := BlkG.cells HS.out.2.1
  obtain ⟨r0, r1, r2, r3⟩ := BlkG.cells HS.out.2.2
  try dsimp only at q0 q1 q2 q3 r0 r1 r2 r3
  have hb0 : (lf != lf) = false := by simp
  have hb1 : (lf == lf) = true := by simp
  go_enter Try.func22, Try.ntmps22
  go_wp2_with fail
  try rw [← hV0]
  try clear hV0
  try clear q0 q1 q2 q3 r0 r1 r2 r3
  go_loopw [43] (fun v43 wr => ∃ k : Nat, k ≤ kn ∧ v43 = .int .i64 (k : Nat) ∧ Hid (Below w.heap.size w wr ∧ BlkG wr w.heap.size lf ⟨ka, kn, kc, va, vn, vc, ia, inn, ic⟩ ∧ BlkG wr (w.heap.size + 1) lf ⟨ka', kn, kc', va', vn, vc', ia', inn, ic'⟩)) (fun v43 _ => kn - (intOf v43).toNat)
  case atStart => exact ⟨0, Nat.zero_le _, rfl, HS⟩
  case round =>
    obtain ⟨k, hk, rfl, HI0⟩ := hrel
    obtain ⟨q0, q1, q2, q3⟩ := BlkG.cells HI0.out.2.1
    obtain ⟨r0, r1, r2, r3⟩ := BlkG.cells HI0.out.2.2
    try dsimp only at q0 q1 q2 q3 r0 r1 r2 r3
    by_cases hlt : k < kn
    · have hw1 : IntKind.i64.wrap ((k : Int) + 1) = (k : Int) + 1 := wrapN (by omega) (by omega)
      have hiI : (k : Int) < (kn : Int) := by omega
      have hi4 : (0 : Int) ≤ (k : Int) := by omega
      obtain ⟨b1, o1, a1, n1, c1, rfl, hb1, z1, hB1⟩ := (HG.out.below HI0.out.1).keys.2.2.2.2 k hlt
      obtain ⟨b2, o2, a2, n2, c2, rfl, hb2, z2, hB2⟩ := (HG'.out.below HI0.out.1).keys.2.2.2.2 k hlt
      generalize p.keys.getD k [] = kk at *
      have hcv1 : ∀ j, (convert 26 9 (.slice a1 n1 c1)).run Try.prog (wr.drewN j) = .ok (.string (str kk)) (wr.drewN j) := fun j => conv_str (hB1.below (below_drewN j))
      have hcv2 : ∀ j, (convert 26 9 (.slice a2 n2 c2)).run Try.prog (wr.drewN j) = .ok (.string (str kk)) (wr.drewN j) := fun j => conv_str (hB2.below (below_drewN j))
      have hst : ((str kk).toList == (str kk).toList) = true := by simp
      clear hB1 hB2
      go_wp2
      go_quiet (fail)
      go_wp2
      go_roundw
      case rel => exact ⟨k + 1, by omega, by simp, hide ⟨HI0.out.1.trans ((below_drewN nq).mono HI0.out.1.size), ((below_drewN nq).block _ (heap_ltN HI0.out.2.1)).trans HI0.out.2.1, ((below_drewN nq).block _ (heap_ltN HI0.out.2.2)).trans HI0.out.2.2⟩⟩
      case measure => simp [intOf]; omega
    · obtain rfl : kn = k := by omega
      have hkk : ¬ ((kn : Nat) : Int) < ((kn : Nat) : Int) := by omega
      go_wp2
      clear q0 q1 q2 q3 r0 r1 r2 r3 hkk hlt hk
      go_loopw [63] (fun v63 wr => ∃ k : Nat, k ≤ vn ∧ v63 = .int .i64 (k : Nat) ∧ Hid (Below w.heap.size w wr ∧ BlkG wr w.heap.size lf ⟨ka, kn, kc, va, vn, vc, ia, inn, ic⟩ ∧ BlkG wr (w.heap.size + 1) lf ⟨ka', kn, kc', va', vn, vc', ia', inn, ic'⟩)) (fun v63 _ => vn - (intOf v63).toNat)
      case atStart => exact ⟨0, Nat.zero_le _, rfl, hide HI0.out⟩
      case round =>
        obtain ⟨k, hk, rfl, HI1⟩ := hrel
        obtain ⟨q0, q1, q2, q3⟩ := BlkG.cells HI1.out.2.1
        obtain ⟨r0, r1, r2, r3⟩ := BlkG.cells HI1.out.2.2
        try dsimp only at q0 q1 q2 q3 r0 r1 r2 r3
        by_cases hlt : k < vn
        · have hw1 : IntKind.i64.wrap ((k : Int) + 1) = (k : Int) + 1 := wrapN (by omega) (by omega)
          have hiI : (k : Int) < (vn : Int) := by omega
          have hi4 : (0 : Int) ≤ (k : Int) := by omega
          obtain ⟨b1, o1, a1, n1, c1, rfl, hb1, z1, hB1⟩ := (HG.out.below HI1.out.1).vals.2.2.2.2 k hlt
          obtain ⟨b2, o2, a2, n2, c2, rfl, hb2, z2, hB2⟩ := (HG'.out.below HI1.out.1).vals.2.2.2.2 k hlt
          generalize p.vals.getD k [] = kk at *
          have hcv1 : ∀ j, (convert 26 9 (.slice a1 n1 c1)).run Try.prog (wr.drewN j) = .ok (.string (str kk)) (wr.drewN j) := fun j => conv_str (hB1.below (below_drewN j))
          have hcv2 : ∀ j, (convert 26 9 (.slice a2 n2 c2)).run Try.prog (wr.drewN j) = .ok (.string (str kk)) (wr.drewN j) := fun j => conv_str (hB2.below (below_drewN j))
          have hst : ((str kk).toList == (str kk).toList) = true := by simp
          clear hB1 hB2
          go_wp2
          go_quiet (fail)
          go_wp2
          go_roundw
          case rel => exact ⟨k + 1, by omega, by simp, hide ⟨HI1.out.1.trans ((below_drewN nq).mono HI1.out.1.size), ((below_drewN nq).block _ (heap_ltN HI1.out.2.1)).trans HI1.out.2.1, ((below_drewN nq).block _ (heap_ltN HI1.out.2.2)).trans HI1.out.2.2⟩⟩
          case measure => simp [intOf]; omega
        · obtain rfl : vn = k := by omega
          have hkk : ¬ ((vn : Nat) : Int) < ((vn : Nat) : Int) := by omega
          go_wp2
          clear q0 q1 q2 q3 r0 r1 r2 r3 hkk hlt hk
          go_loopw [83] (fun v83 wr => ∃ k : Nat, k ≤ inn ∧ v83 = .int .i64 (k : Nat) ∧ Hid (Below w.heap.size w wr ∧ BlkG wr w.heap.size lf ⟨ka, kn, kc, va, vn, vc, ia, inn, ic⟩ ∧ BlkG wr (w.heap.size + 1) lf ⟨ka', kn, kc', va', vn, vc', ia', inn, ic'⟩)) (fun v83 _ => inn - (intOf v83).toNat)
          case atStart => exact ⟨0, Nat.zero_le _, rfl, hide HI1.out⟩
          case round =>
            obtain ⟨k, hk, rfl, HI2⟩ := hrel
            obtain ⟨q0, q1, q2, q3⟩ := BlkG.cells HI2.out.2.1
            obtain ⟨r0, r1, r2, r3⟩ := BlkG.cells HI2.out.2.2
            try dsimp only at q0 q1 q2 q3 r0 r1 r2 r3
            by_cases hlt : k < inn
            · have hw1 : IntKind.i64.wrap ((k : Int) + 1) = (k : Int) + 1 := wrapN (by omega) (by omega)
              have hiI : (k : Int) < (inn : Int) := by omega
              have hi4 : (0 : Int) ≤ (k : Int) := by omega
              obtain ⟨_, b1, o1, rfl, hb1, z1⟩ := (HG.out.below HI2.out.1).kids.2.2.2.2 k hlt
              obtain ⟨_, b2, o2, rfl, hb2, z2⟩ := (HG'.out.below HI2.out.1).kids.2.2.2.2 k hlt
              generalize p.kids.getD k 0 = kk at *
              go_wp2
              go_quiet (fail)
              go_wp2
              go_roundw
              case rel => exact ⟨k + 1, by omega, by simp, hide ⟨HI2.out.1.trans ((below_drewN nq).mono HI2.out.1.size), ((below_drewN nq).block _ (heap_ltN HI2.out.2.1)).trans HI2.out.2.1, ((below_drewN nq).block _ (heap_ltN HI2.out.2.2)).trans HI2.out.2.2⟩⟩
              case measure => simp [intOf]; omega
            · obtain rfl : inn = k := by omega
              have hkk : ¬ ((inn : Nat) : Int) < ((inn : Nat) : Int) := by omega
              go_wp2
              go_ret
              exact ⟨rfl, HI2.out.1⟩
end Go.Proofs.Ytebikoekpbnpbaa

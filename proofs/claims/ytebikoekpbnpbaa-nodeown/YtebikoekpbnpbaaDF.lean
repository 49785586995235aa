/- the document's below, Find -/
import Derived.Test.YtebikoekpbnpbaaDE
namespace Go.Proofs.Ytebikoekpbnpbaa
open Go.RowKit Cod
set_option maxRecDepth 100000
set_option linter.unusedVariables false
set_option linter.unusedSimpArgs false
set_option maxHeartbeats 4000000 in
/-- ladingref06.below -/
theorem rbelow_any (v : Pv) (p : Pg) (xa : Option Addr) (xn xc : Nat) (key : List Nat) (w : World) (h : IsG w v p) (hc : FewP v) (hk : IsB w xa xn xc key) (lf : Bool) :
    Calls Try.prog 47 #[.agg (pgc lf v), .slice xa xn xc] w fun e w' => e = .returned (.tuple #[.int .i64 (lowK p.keys key : Nat), .bool (hasK p.keys key)]) ∧ Below w.heap.size w w' := by
  obtain ⟨V0, hV0⟩ : ∃ V0, V0 = w.alloc (.cells (pgc lf v) 25) := ⟨_, rfl⟩
  have HB0 : Hid (Below w.heap.size w V0) := hide (by rw [hV0]; exact (Below.refl _ w).alloc (Nat.le_refl _) _)
  have HX0 : Hid (BlkG V0 w.heap.size lf v) := hide (by show V0.heap[w.heap.size]? = _; rw [hV0, heap_alloc_new])
  have HG := hide h
  have HK := hide hk
  have HKN : Hid (p.keys.length = v.kn) := hide h.keys.1
  have hkn := hc.1
  obtain ⟨R, hR⟩ : ∃ R, R = lowK p.keys key := ⟨_, rfl⟩
  obtain ⟨T, hT⟩ : ∃ T, T = hasK p.keys key := ⟨_, rfl⟩
  rw [← hR, ← hT]
  have HR := hide (And.intro hR hT)
  clear h hc hk hR hT
  obtain ⟨ka, kn, kc, va, vn, vc, ia, inn, ic⟩ := v
  try dsimp only at HX0 HKN hkn hV0
  try dsimp only
  go_enter Try.func47, Try.ntmps47
  go_wp2
  try rw [← hV0]
  clear hV0
  go_loopw [6] (fun i W => ∃ (k : Nat), k ≤ kn ∧ i = .int .i64 (k : Nat) ∧ Hid ((∀ j, j < k → ltN (p.keys.getD j []) key = true) ∧ Below w.heap.size w W ∧ BlkG W w.heap.size lf ⟨ka, kn, kc, va, vn, vc, ia, inn, ic⟩)) (fun i _ => kn - (intOf i).toNat)
  case atStart => exact ⟨0, Nat.zero_le _, rfl, hide ⟨fun j hj => absurd hj (Nat.not_lt_zero _), HB0.out, HX0.out⟩⟩
  case round =>
    obtain ⟨k, hk, rfl, HI⟩ := hrel
    have HNX : Hid (∀ i, Below w.heap.size w (wr.drewN i) ∧ BlkG (wr.drewN i) w.heap.size lf ⟨ka, kn, kc, va, vn, vc, ia, inn, ic⟩) := hide (fun i => ⟨HI.out.2.1.trans ((below_drewN i).mono HI.out.2.1.size), ((below_drewN i).block _ (heap_ltN HI.out.2.2)).trans HI.out.2.2⟩)
    have q1 : wr.cell? ⟨w.heap.size, 1, none⟩ = some (.slice ka kn kc) := (BlkG.cells HI.out.2.2).2.1
    have hcv3 : ∀ i, (convert 26 9 (.slice xa xn xc)).run Try.prog (wr.drewN i) = .ok (.string (str key)) (wr.drewN i) := fun i => conv_str ((HK.out.below HI.out.2.1).below (below_drewN i))
    have HCV3 := hide hcv3
    by_cases hlt : k < kn
    · have hkI : (k : Int) < (kn : Int) := by omega
      have hk0 : (0 : Int) ≤ (k : Int) := by omega
      have hwk : IntKind.i64.wrap ((k : Int) + 1) = (k : Int) + 1 := wrapN (by omega) (by omega)
      obtain ⟨b1, o1, a1, n1, c1, rfl, hb1, z1, hB1⟩ := (HG.out.below HI.out.2.1).keys.2.2.2.2 k hlt
      obtain ⟨x1, hx1⟩ : ∃ x, p.keys.getD k [] = x := ⟨_, rfl⟩
      rw [hx1] at hB1
      have HX1 := hide hx1
      have hcv1 : ∀ i, (convert 26 9 (.slice a1 n1 c1)).run Try.prog (wr.drewN i) = .ok (.string (str x1)) (wr.drewN i) := fun i => conv_str (hB1.below (below_drewN i))
      have hlss := less_strN hB1.2.2.2.1 HK.out.2.2.2.1
      have HSE := hide (str_eq hB1.2.2.2.1 HK.out.2.2.2.1)
      have HZ1 : Hid (∀ i, (wr.drewN i).cell? ⟨b1, o1 + k, none⟩ = some (.slice a1 n1 c1)) := hide (fun i => (World.cell?_of_block ((below_drewN i).block _ hb1)).trans z1)
      have HCV1 : Hid (∀ i j, (convert 26 9 (.slice a1 n1 c1)).run Try.prog ((wr.drewN i).drewN j) = .ok (.string (str x1)) ((wr.drewN i).drewN j)) := hide (fun i j => conv_str ((hB1.below (below_drewN i)).below (below_drewN j)))
      have HCV4 : Hid (∀ i j, (convert 26 9 (.slice xa xn xc)).run Try.prog ((wr.drewN i).drewN j) = .ok (.string (str key)) ((wr.drewN i).drewN j)) := hide (fun i j => conv_str (((HK.out.below HI.out.2.1).below (below_drewN i)).below (below_drewN j)))
      clear hB1 hx1
      cases hl2 : ltN x1 key with
      | true =>
        rw [hl2] at hlss
        have HS : Hid (∀ j, j < k + 1 → ltN (p.keys.getD j []) key = true) := hide (fun j hj => by
          by_cases e : j = k
          · subst e; rw [HX1.out]; exact hl2
          · exact HI.out.1 j (by omega))
        clear hl2
        go_wp2
        go_quiet (fail)
        go_wp2
        go_roundw
        case rel => exact ⟨k + 1, by omega, by simp, hide ⟨HS.out, HNX.out _⟩⟩
        case measure => simp [intOf]; omega
      | false =>
        rw [hl2] at hlss
        have HF : Hid (R = k ∧ T = decide (x1 = key)) := hide (by
          have e1 : lowK p.keys key = k := lowK_is p.keys k (by rw [HKN.out]; exact hk) HI.out.1 (fun _ => by rw [HX1.out]; exact hl2)
          refine ⟨HR.out.1.trans e1, HR.out.2.trans ?_⟩
          unfold hasK
          rw [e1, HX1.out, HKN.out, decide_eq_true hlt, Bool.true_and])
        clear hl2
        go_wp2
        go_quiet (fail)
        go_wp2
        obtain ⟨W7, hW7⟩ : ∃ W7, W7 = wr.drewN nq := ⟨_, rfl⟩
        try rw [← hW7]
        have HB7 : Hid (Below w.heap.size w W7 ∧ BlkG W7 w.heap.size lf ⟨some ⟨b1, o1, none⟩, kn, kc, va, vn, vc, ia, inn, ic⟩) := hide (by rw [hW7]; exact HNX.out _)
        have q7 : W7.cell? ⟨w.heap.size, 1, none⟩ = some (.slice (some ⟨b1, o1, none⟩) kn kc) := (BlkG.cells HB7.out.2).2.1
        have z7 : W7.cell? ⟨b1, o1 + k, none⟩ = some (.slice a1 n1 c1) := by rw [hW7]; exact HZ1.out nq
        have hcw1 : ∀ i, (convert 26 9 (.slice a1 n1 c1)).run Try.prog (W7.drewN i) = .ok (.string (str x1)) (W7.drewN i) := by rw [hW7]; exact HCV1.out nq
        have hcw3 : ∀ i, (convert 26 9 (.slice xa xn xc)).run Try.prog (W7.drewN i) = .ok (.string (str key)) (W7.drewN i) := by rw [hW7]; exact HCV4.out nq
        have hse := HSE.out
        clear hW7 hcv1 hcv3 q1 z1 hlss
        obtain ⟨t, ht⟩ : ∃ t, t = decide (x1 = key) := ⟨_, rfl⟩
        rw [← ht] at hse HF
        clear ht
        first | go_quiet (fail) | skip
        try go_wp2
        go_ret2
        exact ⟨by rw [HF.out.1, HF.out.2]; rfl, HB7.out.1.trans ((below_drewN _).mono HB7.out.1.size)⟩
    · obtain rfl : kn = k := by omega
      have HF : Hid (R = kn ∧ T = false) := hide (by
        have e1 : lowK p.keys key = kn := lowK_is p.keys kn (by rw [HKN.out]; exact Nat.le_refl _) HI.out.1 (fun h => by rw [HKN.out] at h; omega)
        refine ⟨HR.out.1.trans e1, HR.out.2.trans ?_⟩
        unfold hasK
        rw [e1, HKN.out, decide_eq_false (by omega), Bool.false_and])
      have hkk : decide ((kn : Int) < (kn : Int)) = false := decide_eq_false (by omega)
      clear hlt hk
      go_wp2
      first | go_quiet (fail) | skip
      try go_wp2
      first | go_quiet (fail) | skip
      try go_wp2
      go_ret2
      exact ⟨by rw [HF.out.1, HF.out.2]; rfl, by first | exact (HNX.out _).1 | exact (HNX.out _).1.trans ((below_drewN _).mono (HNX.out _).1.size) | exact HI.out.2.1⟩
end Go.Proofs.Ytebikoekpbnpbaa

/- the document's Same, of versions -/
import Derived.Test.YtlkmcbelmldleaaGreatVXb
namespace Go.Proofs.YtlkmcbelmldleaaGreat
open Go.RowKit
set_option maxRecDepth 40000
set_option maxRecDepth 40000 in
set_option maxHeartbeats 4000000 in
theorem sameV_any (a : Option Addr) (len cap low : Nat) (l : List Vr) (a' : Option Addr) (len' cap' low' : Nat) (l' : List Vr) (w : World) (h : IsV w a len cap l) (h' : IsV w a' len' cap' l') :
    Calls Tryz.prog 24 #[.agg #[.slice a len cap, .int .u64 (low : Nat)], .agg #[.slice a' len' cap', .int .u64 (low' : Nat)]] w fun e w' => (∃ r, e = .returned (.bool r) ∧ (r = true ↔ low = low' ∧ l = l')) ∧ Below w.heap.size w w' := by
  have HB0 : Hid (Below w.heap.size w ((w.alloc (.cells #[.slice a len cap, .int .u64 (low : Nat)] 31)).alloc (.cells #[.slice a' len' cap', .int .u64 (low' : Nat)] 31))) := hide (((Below.refl _ w).alloc (Nat.le_refl _) _).alloc (by simp) _)
  have HV := hide (h.below HB0.out)
  have HV' := hide (h'.below HB0.out)
  have HLN := hide h.1
  have HLN' := hide h'.1
  have hcap := h.2.1
  have hcm : cap ≤ 9223372036854775807 := h.2.2.1
  have hcap' := h'.2.1
  have hcm' : cap' ≤ 9223372036854775807 := h'.2.2.1
  have hX : Two ((w.alloc (.cells #[.slice a len cap, .int .u64 (low : Nat)] 31)).alloc (.cells #[.slice a' len' cap', .int .u64 (low' : Nat)] 31)) w.heap.size (.slice a len cap) (.int .u64 (low : Nat)) := (heap_alloc_old _ _ _ (by simp)).trans (heap_alloc_new _ _)
  have hY := heap_alloc_new (w.alloc (.cells #[.slice a len cap, .int .u64 (low : Nat)] 31)) (.cells #[.slice a' len' cap', .int .u64 (low' : Nat)] 31)
  simp only [World.size_alloc] at hY
  have HX0 := hide hX
  have HY0 : Hid (Two _ (w.heap.size + 1) (.slice a' len' cap') (.int .u64 (low' : Nat))) := hide hY
  have hq := @equal51
  have hqg := @eqg51
  clear h h' hX hY
  by_cases hlo : low = low'
  case neg =>
    have hloI : ¬ (low : Int) = (low' : Int) := by omega
    go_enter Tryz.func24, Tryz.ntmps24
    go_wp2
    go_ret
    exact ⟨⟨false, rfl, by simp; intro e; exact absurd e hlo⟩, HB0.out⟩
  subst hlo
  by_cases hne : len = len'
  case neg =>
    have hneI : ¬ (len : Int) = (len' : Int) := by omega
    go_enter Tryz.func24, Tryz.ntmps24
    go_wp2
    go_ret
    exact ⟨⟨false, rfl, by simp; intro e; apply hne; rw [← HLN.out, ← HLN'.out, e]⟩, HB0.out⟩
  case pos =>
    subst hne
    go_enter Tryz.func24, Tryz.ntmps24
    go_wp2
    generalize ((w.alloc (.cells #[.slice a len cap, .int .u64 (low : Nat)] 31)).alloc (.cells #[.slice a' len cap', .int .u64 (low : Nat)] 31)) = V at *
    go_loopw [23] (fun i wr => ∃ k : Nat, k ≤ len ∧ i = .int .i64 k ∧ Hid (∀ j, j < k → l.getD j Vr0 = l'.getD j Vr0) ∧ Hid (Below V.heap.size V wr)) (fun i _ => len - (intOf i).toNat)
    case atStart => exact ⟨0, Nat.zero_le _, rfl, hide (fun j hj => by omega), hide (Below.refl _ _)⟩
    case round =>
      obtain ⟨k, hk, rfl, HA, HB⟩ := hrel
      by_cases hlt : k < len
      case neg =>
        obtain rfl : k = len := by omega
        go_wp2
        go_ret
        exact ⟨⟨true, rfl, by simp; exact ext_of Vr0 (HLN.out.trans HLN'.out.symm) (fun i hi => HA.out i (by rw [← HLN.out]; exact hi))⟩, HB0.out.trans (HB.out.mono HB0.out.size)⟩
      case pos =>
        obtain ⟨b, off, rfl, hbs, z0, z1, z2, z3⟩ := (HV.out.below HB.out).2.2.2 k hlt
        obtain ⟨b', off', rfl, hbs', y0, y1, y2, y3⟩ := (HV'.out.below HB.out).2.2.2 k hlt
        obtain ⟨p0, p1⟩ := cells2_of_blk ((HB.out.block _ (heap_lt HX0.out)).trans HX0.out)
        obtain ⟨r0, r1⟩ := cells2_of_blk ((HB.out.block _ (heap_lt HY0.out)).trans HY0.out)
        generalize hx : l.getD k Vr0 = x at *
        generalize hy : l'.getD k Vr0 = y at *
        have HX := hide hx
        have HY := hide hy
        have HSB := hide (eqV_iff x y)
        clear hx hy
        obtain ⟨x1, x2, x3, x4⟩ := x
        obtain ⟨t1, t2, t3, t4⟩ := y
        dsimp only at z0 z1 z2 z3 y0 y1 y2 y3
        have HBD : Hid (Below V.heap.size V wr.drew) := hide HB.out.drew
        have HS : Hid (wr.drew.cell? ⟨w.heap.size, 0, none⟩ = some (.slice (some ⟨b, off, none⟩) len cap) ∧ wr.drew.cell? ⟨w.heap.size + 1, 0, none⟩ = some (.slice (some ⟨b', off', none⟩) len cap') ∧ wr.drew.cell? ⟨b, off + k * 4, none⟩ = some (.string x1) ∧ wr.drew.cell? ⟨b, off + k * 4 + 1, none⟩ = some (.int .u64 (x2 : Nat)) ∧ wr.drew.cell? ⟨b, off + k * 4 + 2, none⟩ = some (.string x3) ∧ wr.drew.cell? ⟨b, off + k * 4 + 3, none⟩ = some (.bool x4) ∧ wr.drew.cell? ⟨b', off' + k * 4, none⟩ = some (.string t1) ∧ wr.drew.cell? ⟨b', off' + k * 4 + 1, none⟩ = some (.int .u64 (t2 : Nat)) ∧ wr.drew.cell? ⟨b', off' + k * 4 + 2, none⟩ = some (.string t3) ∧ wr.drew.cell? ⟨b', off' + k * 4 + 3, none⟩ = some (.bool t4)) := hide ⟨p0, r0, z0, z1, z2, z3, y0, y1, y2, y3⟩
        have hkc : (k : Int) < len := by omega
        have hk0 : (0 : Int) ≤ (k : Int) := by omega
        have hw1 : IntKind.i64.wrap ((k : Int) + 1) = (k : Int) + 1 := wr64' (by omega) (by omega)
        go_wp2_with fail
        go_region_held (fun W : World => W.cell? ⟨w.heap.size, 0, none⟩ = some (.slice (some ⟨b, off, none⟩) len cap) ∧ W.cell? ⟨w.heap.size + 1, 0, none⟩ = some (.slice (some ⟨b', off', none⟩) len cap') ∧ W.cell? ⟨b, off + k * 4, none⟩ = some (.string x1) ∧ W.cell? ⟨b, off + k * 4 + 1, none⟩ = some (.int .u64 (x2 : Nat)) ∧ W.cell? ⟨b, off + k * 4 + 2, none⟩ = some (.string x3) ∧ W.cell? ⟨b, off + k * 4 + 3, none⟩ = some (.bool x4) ∧ W.cell? ⟨b', off' + k * 4, none⟩ = some (.string t1) ∧ W.cell? ⟨b', off' + k * 4 + 1, none⟩ = some (.int .u64 (t2 : Nat)) ∧ W.cell? ⟨b', off' + k * 4 + 2, none⟩ = some (.string t3) ∧ W.cell? ⟨b', off' + k * 4 + 3, none⟩ = some (.bool t4)) (exact HS.out) (fail)
        generalize eqV ⟨x1, x2, x3, x4⟩ ⟨t1, t2, t3, t4⟩ = sb at *
        cases sb
        · go_wp2
          go_ret
          exact ⟨⟨false, rfl, by simp; intro e; have h1 := HX.out; rw [e, HY.out] at h1; exact absurd (HSB.out.2 h1.symm) (by simp)⟩, HB0.out.trans (HBD.out.mono HB0.out.size)⟩
        · go_wp2
          go_roundw
          case rel => exact ⟨k + 1, by omega, by simp, hide (fun j hj => by
            by_cases e : j = k
            · rw [e, HX.out, HY.out]; exact HSB.out.1 rfl
            · exact HA.out j (by omega)), HBD⟩
          case measure => simp [intOf]; omega
end Go.Proofs.YtlkmcbelmldleaaGreat

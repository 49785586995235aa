/- Same -/
import Derived.Test.YtggbaanoagbmdaaK
namespace Go.Proofs.Ytggbaanoagbmdaa
open Go.RowKit
theorem ev_ext {l l' : List Ev} (h : l.length = l'.length) (he : ∀ i, i < l.length → l.getD i Ev0 = l'.getD i Ev0) : l = l' := by
  apply List.ext_getElem h
  intro i h1 h2
  have := he i h1
  rw [List.getD_eq_getElem?_getD, List.getD_eq_getElem?_getD, List.getElem?_eq_getElem h1, List.getElem?_eq_getElem h2] at this
  exact this
set_option maxRecDepth 40000 in
set_option maxHeartbeats 1000000 in
/-- the document's Same -/
theorem same_any (a : Option Addr) (len cap : Nat) (l : List Ev) (a' : Option Addr) (len' cap' : Nat) (l' : List Ev) (w : World) (h : IsE w a len cap l) (h' : IsE w a' len' cap' l') :
    Calls Try.prog 13 #[.slice a len cap, .slice a' len' cap'] w fun e w' => (∃ r, e = .returned (.bool r) ∧ (r = true ↔ l = l')) ∧ Below w.heap.size w w' := by
  have HV := hide h
  have HV' := hide h'
  have HLN := hide h.1
  have HLN' := hide h'.1
  have hcap := h.2.1
  have hcm : cap ≤ 9223372036854775807 := h.2.2.1
  have hcap' := h'.2.1
  have hcm' : cap' ≤ 9223372036854775807 := h'.2.2.1
  have hq := @equal41
  have hqg := @eqg41
  clear h h'
  by_cases hne : len = len'
  case neg =>
    go_enter Try.func13, Try.ntmps13
    go_wp2
    go_ret
    exact ⟨⟨false, rfl, by simp; intro e; apply hne; rw [← HLN.out, ← HLN'.out, e]⟩, Below.refl _ _⟩
  case pos =>
    subst hne
    go_enter Try.func13, Try.ntmps13
    go_wp2
    go_loopw [13] (fun i wr => ∃ k : Nat, k ≤ len ∧ i = .int .i64 k ∧ Hid (∀ j, j < k → l.getD j Ev0 = l'.getD j Ev0) ∧ Hid (Below w.heap.size w wr)) (fun i _ => len - (intOf i).toNat)
    case atStart => exact ⟨0, Nat.zero_le _, rfl, hide (fun j hj => by omega), hide (Below.refl _ _)⟩
    case round =>
      obtain ⟨k, hk, rfl, HA, HB⟩ := hrel
      by_cases hlt : k < len
      case neg =>
        obtain rfl : k = len := by omega
        go_wp2
        go_ret
        exact ⟨⟨true, rfl, by simp; exact ev_ext (HLN.out.trans HLN'.out.symm) (fun i hi => HA.out i (by rw [← HLN.out]; exact hi))⟩, HB.out⟩
      case pos =>
        obtain ⟨b, off, rfl, hbs, z0, z1, z2, z3, z4⟩ := (HV.out.below' HB.out).2.2.2.2 k hlt
        obtain ⟨b', off', rfl, hbs', y0, y1, y2, y3, y4⟩ := (HV'.out.below' HB.out).2.2.2.2 k hlt
        generalize hx : l.getD k Ev0 = x at *
        generalize hy : l'.getD k Ev0 = y at *
        have HX := hide hx
        have HY := hide hy
        have HSB := hide (sameB_iff x y)
        clear hx hy
        obtain ⟨x1, x2, x3, x4, x5⟩ := x
        obtain ⟨t1, t2, t3, t4, t5⟩ := y
        dsimp only at z0 z1 z2 z3 z4 y0 y1 y2 y3 y4
        have HBD : Hid (Below w.heap.size w wr.drew) := hide HB.out.drew
        have HS : Hid (wr.drew.cell? ⟨b, off + k * 5, none⟩ = some (.string x1) ∧ wr.drew.cell? ⟨b, off + k * 5 + 1, none⟩ = some (.int .i64 x2) ∧ wr.drew.cell? ⟨b, off + k * 5 + 2, none⟩ = some (.int .i64 x3) ∧ wr.drew.cell? ⟨b, off + k * 5 + 3, none⟩ = some (.string x4) ∧ wr.drew.cell? ⟨b, off + k * 5 + 4, none⟩ = some (.string x5) ∧ wr.drew.cell? ⟨b', off' + k * 5, none⟩ = some (.string t1) ∧ wr.drew.cell? ⟨b', off' + k * 5 + 1, none⟩ = some (.int .i64 t2) ∧ wr.drew.cell? ⟨b', off' + k * 5 + 2, none⟩ = some (.int .i64 t3) ∧ wr.drew.cell? ⟨b', off' + k * 5 + 3, none⟩ = some (.string t4) ∧ wr.drew.cell? ⟨b', off' + k * 5 + 4, none⟩ = some (.string t5)) := hide ⟨z0, z1, z2, z3, z4, y0, y1, y2, y3, y4⟩
        have hkc : (k : Int) < len := by omega
        have hk0 : (0 : Int) ≤ (k : Int) := by omega
        go_wp2_with fail
        go_region_held (fun W : World => W.cell? ⟨b, off + k * 5, none⟩ = some (.string x1) ∧ W.cell? ⟨b, off + k * 5 + 1, none⟩ = some (.int .i64 x2) ∧ W.cell? ⟨b, off + k * 5 + 2, none⟩ = some (.int .i64 x3) ∧ W.cell? ⟨b, off + k * 5 + 3, none⟩ = some (.string x4) ∧ W.cell? ⟨b, off + k * 5 + 4, none⟩ = some (.string x5) ∧ W.cell? ⟨b', off' + k * 5, none⟩ = some (.string t1) ∧ W.cell? ⟨b', off' + k * 5 + 1, none⟩ = some (.int .i64 t2) ∧ W.cell? ⟨b', off' + k * 5 + 2, none⟩ = some (.int .i64 t3) ∧ W.cell? ⟨b', off' + k * 5 + 3, none⟩ = some (.string t4) ∧ W.cell? ⟨b', off' + k * 5 + 4, none⟩ = some (.string t5)) (exact HS.out) (fail)
        generalize sameB ⟨x1, x2, x3, x4, x5⟩ ⟨t1, t2, t3, t4, t5⟩ = sb at *
        cases sb
        · go_wp2
          go_ret
          exact ⟨⟨false, rfl, by simp; intro e; have h1 := HX.out; rw [e, HY.out] at h1; exact absurd (HSB.out.2 h1.symm) (by simp)⟩, HBD.out⟩
        · go_wp2
          go_roundw
          case rel => exact ⟨k + 1, by omega, by simp, hide (fun j hj => by
            by_cases e : j = k
            · rw [e, HX.out, HY.out]; exact HSB.out.1 rfl
            · exact HA.out j (by omega)), HBD⟩
          case measure => simp [intOf]; omega
end Go.Proofs.Ytggbaanoagbmdaa

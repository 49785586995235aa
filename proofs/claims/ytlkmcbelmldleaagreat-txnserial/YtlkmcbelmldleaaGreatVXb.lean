/- pairs and versions that are one; the document's Same -/
import Derived.Test.YtlkmcbelmldleaaGreatVXa
import Derived.Laws.StructEq
namespace Go.Proofs.YtlkmcbelmldleaaGreat
open Go.RowKit
set_option maxRecDepth 40000
theorem str_inj {a b : ByteArray} (h : a.toList = b.toList) : a = b := by
  rw [ByteArray.toList_eq, ByteArray.toList_eq] at h
  cases a; cases b
  congr 1
  exact Array.toList_inj.1 h
def eqP (x y : Pr) : Bool := (x.key.toList == y.key.toList) && (x.val.toList == y.val.toList)
theorem eqP_iff (x y : Pr) : eqP x y = true ↔ x = y := by
  obtain ⟨a1, a2⟩ := x
  obtain ⟨b1, b2⟩ := y
  simp only [eqP, Bool.and_eq_true, beq_iff_eq, Pr.mk.injEq]
  constructor
  · rintro ⟨h1, h2⟩
    exact ⟨str_inj h1, str_inj h2⟩
  · rintro ⟨rfl, rfl⟩
    exact ⟨rfl, rfl⟩
theorem struct54 : Tryz.prog.underlying 62 = some (.struct (Tryz.prog.fieldsOf 62)) := by kernel_rfl
theorem stood54 : Tryz.prog.stoodInHeld 62 = false := by kernel_rfl
theorem guard54 : Tryz.prog.eqGuardType Tryz.prog.depth 62 = false := by kernel_rfl
theorem equal54 (a1 a2 b1 b2 : ByteArray) (w : World) :
    (Op.equalIn 10000 62 (.agg #[.string a1, .string a2]) (.agg #[.string b1, .string b2])).run Tryz.prog w = .ok (eqP ⟨a1, a2⟩ ⟨b1, b2⟩) w := by
  have u9 := Tryz.underlying9
  have a9 := Tryz.isAgg9
  have z9 := Tryz.sizeOf9
  rw [show (10000 : Nat) = 9999 + 1 from rfl, run_equalIn_agg w 9999 62 _ _ struct54 stood54]
  simp only [Program.fieldsOf, Tryz.underlying62]
  go_simp
  simp only [eqP]
  by_cases h1 : a1.toList = b1.toList <;> by_cases h2 : a2.toList = b2.toList <;> simp [h1, h2]
theorem eqg54 (op : BinOp) (a b : Operand) (xs ys : Array Value) (w : World) : (eqGuard op 62 a b (.agg xs) (.agg ys)).run Tryz.prog w = .ok () w := run_eqGuard_agg w op 62 a b xs ys guard54
def eqV (x y : Vr) : Bool := (x.key.toList == y.key.toList) && (((x.at_ : Int) == (y.at_ : Int)) && ((x.val.toList == y.val.toList) && (x.gone == y.gone)))
theorem ext_of {α : Type} (d : α) {l l' : List α} (h : l.length = l'.length) (he : ∀ i, i < l.length → l.getD i d = l'.getD i d) : l = l' := by
  apply List.ext_getElem h
  intro i h1 h2
  have := he i h1
  rw [List.getD_eq_getElem?_getD, List.getD_eq_getElem?_getD, List.getElem?_eq_getElem h1, List.getElem?_eq_getElem h2] at this
  exact this
set_option maxRecDepth 40000 in
set_option maxHeartbeats 1000000 in
/-- the document's Same, of pairs -/
theorem sameP_any (a : Option Addr) (len cap : Nat) (l : List Pr) (a' : Option Addr) (len' cap' : Nat) (l' : List Pr) (w : World) (h : IsP w a len cap l) (h' : IsP w a' len' cap' l') :
    Calls Tryz.prog 31 #[.slice a len cap, .slice a' len' cap'] w fun e w' => (∃ r, e = .returned (.bool r) ∧ (r = true ↔ l = l')) ∧ Below w.heap.size w w' := by
  have HV := hide h
  have HV' := hide h'
  have HLN := hide h.1
  have HLN' := hide h'.1
  have hcap := h.2.1
  have hcm : cap ≤ 9223372036854775807 := h.2.2.1
  have hcap' := h'.2.1
  have hcm' : cap' ≤ 9223372036854775807 := h'.2.2.1
  have hq := @equal54
  have hqg := @eqg54
  clear h h'
  by_cases hne : len = len'
  case neg =>
    go_enter Tryz.func31, Tryz.ntmps31
    go_wp2
    go_ret
    exact ⟨⟨false, rfl, by simp; intro e; apply hne; rw [← HLN.out, ← HLN'.out, e]⟩, Below.refl _ _⟩
  case pos =>
    subst hne
    go_enter Tryz.func31, Tryz.ntmps31
    go_wp2
    go_loopw [13] (fun i wr => ∃ k : Nat, k ≤ len ∧ i = .int .i64 k ∧ Hid (∀ j, j < k → l.getD j Pr0 = l'.getD j Pr0) ∧ Hid (Below w.heap.size w wr)) (fun i _ => len - (intOf i).toNat)
    case atStart => exact ⟨0, Nat.zero_le _, rfl, hide (fun j hj => by omega), hide (Below.refl _ _)⟩
    case round =>
      obtain ⟨k, hk, rfl, HA, HB⟩ := hrel
      by_cases hlt : k < len
      case neg =>
        obtain rfl : k = len := by omega
        go_wp2
        go_ret
        exact ⟨⟨true, rfl, by simp; exact ext_of Pr0 (HLN.out.trans HLN'.out.symm) (fun i hi => HA.out i (by rw [← HLN.out]; exact hi))⟩, HB.out⟩
      case pos =>
        obtain ⟨b, off, rfl, hbs, z0, z1⟩ := (HV.out.below HB.out).2.2.2 k hlt
        obtain ⟨b', off', rfl, hbs', y0, y1⟩ := (HV'.out.below HB.out).2.2.2 k hlt
        generalize hx : l.getD k Pr0 = x at *
        generalize hy : l'.getD k Pr0 = y at *
        have HX := hide hx
        have HY := hide hy
        have HSB := hide (eqP_iff x y)
        clear hx hy
        obtain ⟨x1, x2⟩ := x
        obtain ⟨t1, t2⟩ := y
        dsimp only at z0 z1 y0 y1
        have HBD : Hid (Below w.heap.size w wr.drew) := hide HB.out.drew
        have HS : Hid (wr.drew.cell? ⟨b, off + k * 2, none⟩ = some (.string x1) ∧ wr.drew.cell? ⟨b, off + k * 2 + 1, none⟩ = some (.string x2) ∧ wr.drew.cell? ⟨b', off' + k * 2, none⟩ = some (.string t1) ∧ wr.drew.cell? ⟨b', off' + k * 2 + 1, none⟩ = some (.string t2)) := hide ⟨z0, z1, y0, y1⟩
        have hkc : (k : Int) < len := by omega
        have hk0 : (0 : Int) ≤ (k : Int) := by omega
        go_wp2_with fail
        go_region_held (fun W : World => W.cell? ⟨b, off + k * 2, none⟩ = some (.string x1) ∧ W.cell? ⟨b, off + k * 2 + 1, none⟩ = some (.string x2) ∧ W.cell? ⟨b', off' + k * 2, none⟩ = some (.string t1) ∧ W.cell? ⟨b', off' + k * 2 + 1, none⟩ = some (.string t2)) (exact HS.out) (fail)
        generalize eqP ⟨x1, x2⟩ ⟨t1, t2⟩ = sb at *
        cases sb
        · go_wp2
          go_ret
          exact ⟨⟨false, rfl, by simp; intro e; have h1 := HX.out; rw [e, HY.out] at h1; exact absurd (HSB.out.2 h1.symm) (by simp)⟩, HBD.out⟩
        · go_wp2
          go_roundw
          case rel => exact ⟨k + 1, by omega, by simp, hide (fun j hj => by
            by_cases e : j = k
            · rw [e, HX.out, HY.out]; exact HSB.out.1 rfl
            · exact HA.out j (by omega)), HBD⟩
          case measure => simp [intOf]; omega
end Go.Proofs.YtlkmcbelmldleaaGreat

/- lists that are one: Same -/
import Derived.Test.YtdiciobdknddkaaDoorG
import Derived.Laws.StructEq
namespace Go.Proofs.YtdiciobdknddkaaDoor
open Go.RowKit
def sameS (x y : Sh) : Bool := (x.od == y.od) && (x.st == y.st)
theorem sameS_iff (x y : Sh) : sameS x y = true ↔ x = y := by
  obtain ⟨a1, a2⟩ := x
  obtain ⟨b1, b2⟩ := y
  simp only [sameS, Bool.and_eq_true, beq_iff_eq, Sh.mk.injEq]
theorem struct42 : Tryd.prog.underlying 42 = some (.struct (Tryd.prog.fieldsOf 42)) := by kernel_rfl
theorem stood42 : Tryd.prog.stoodInHeld 42 = false := by kernel_rfl
theorem guard42 : Tryd.prog.eqGuardType Tryd.prog.depth 42 = false := by kernel_rfl
theorem equal42 (a1 a2 b1 b2 : Int) (w : World) :
    (Op.equalIn 10000 42 (.agg #[.int .i64 a1, .int .u8 a2]) (.agg #[.int .i64 b1, .int .u8 b2])).run Tryd.prog w = .ok (sameS ⟨a1, a2⟩ ⟨b1, b2⟩) w := by
  have u3 := Tryd.underlying3
  have a3' := Tryd.isAgg3
  have z3 := Tryd.sizeOf3
  have u9 := Tryd.underlying22
  have a9 := Tryd.isAgg22
  have z9 := Tryd.sizeOf22
  rw [show (10000 : Nat) = 9999 + 1 from rfl, run_equalIn_agg w 9999 42 _ _ struct42 stood42]
  simp only [Program.fieldsOf, Tryd.underlying42]
  go_simp
  simp only [sameS]
  by_cases h1 : a1 = b1 <;> by_cases h2 : a2 = b2 <;> simp [h1, h2]
theorem eqg42 (op : BinOp) (a b : Operand) (xs ys : Array Value) (w : World) : (eqGuard op 42 a b (.agg xs) (.agg ys)).run Tryd.prog w = .ok () w := run_eqGuard_agg w op 42 a b xs ys guard42
set_option maxHeartbeats 1000000 in
/-- the document's Same, at like lists -/
theorem same_any (a : Option Addr) (len cap : Nat) (a' : Option Addr) (len' cap' : Nat) (l : List Sh) (w : World) (h : IsH w a len cap l) (h' : IsH w a' len' cap' l) :
    Calls Tryd.prog 19 #[.slice a len cap, .slice a' len' cap'] w fun e w' => e = .returned (.bool true) ∧ Below w.heap.size w w' := by
  obtain rfl : len = len' := h.1.symm.trans h'.1
  have HV := hide h
  have HV' := hide h'
  have hcap := h.2.1
  have hcm : cap ≤ 9223372036854775807 := h.2.2.1
  have hcap' := h'.2.1
  have hcm' : cap' ≤ 9223372036854775807 := h'.2.2.1
  have hq := @equal42
  have hqg := @eqg42
  clear h h'
  go_enter Tryd.func19, Tryd.ntmps19
  go_wp2
  go_loopw [13] (fun i wr => ∃ k : Nat, k ≤ len ∧ i = .int .i64 k ∧ Hid (Below w.heap.size w wr)) (fun i _ => len - (intOf i).toNat)
  case atStart => exact ⟨0, Nat.zero_le _, rfl, hide (Below.refl _ _)⟩
  case round =>
    obtain ⟨k, hk, rfl, HB⟩ := hrel
    by_cases hlt : k < len
    case neg =>
      obtain rfl : k = len := by omega
      go_wp2
      go_ret
      exact ⟨rfl, HB.out⟩
    case pos =>
      obtain ⟨b, off, rfl, hbs, z0⟩ := (HV.out.below' HB.out).2.2.2.2.1 k hlt
      obtain ⟨b', off', rfl, hbs', y0⟩ := (HV'.out.below' HB.out).2.2.2.2.1 k hlt
      generalize l.getD k Sh0 = x at *
      obtain ⟨x1, x2⟩ := x
      have HSB : Hid (sameS ⟨x1, x2⟩ ⟨x1, x2⟩ = true) := hide ((sameS_iff _ _).2 rfl)
      have HBD : Hid (Below w.heap.size w wr.drew) := hide HB.out.drew
      have HS : Hid (wr.drew.cell? ⟨b, off + k * 2, none⟩ = some (.int .i64 x1) ∧ wr.drew.cell? ⟨b, off + k * 2 + 1, none⟩ = some (.int .u8 x2) ∧ wr.drew.cell? ⟨b', off' + k * 2, none⟩ = some (.int .i64 x1) ∧ wr.drew.cell? ⟨b', off' + k * 2 + 1, none⟩ = some (.int .u8 x2)) := hide (by
        obtain ⟨e1, e2⟩ := z0
        obtain ⟨d1, d2⟩ := y0
        exact ⟨e1, e2, d1, d2⟩)
      clear z0 y0
      have hkc : (k : Int) < len := by omega
      have hk0 : (0 : Int) ≤ (k : Int) := by omega
      go_wp2_with fail
      go_region_held (fun W : World => (W.cell? ⟨b, off + k * 2, none⟩ = some (.int .i64 x1) ∧ W.cell? ⟨b, off + k * 2 + 1, none⟩ = some (.int .u8 x2) ∧ W.cell? ⟨b', off' + k * 2, none⟩ = some (.int .i64 x1) ∧ W.cell? ⟨b', off' + k * 2 + 1, none⟩ = some (.int .u8 x2))) (exact HS.out) (fail)
      rw [HSB.out]
      go_wp2
      go_roundw
      case rel => exact ⟨k + 1, by omega, by simp, HBD⟩
      case measure => simp [intOf]; omega
theorem same_at (a : Option Addr) (len cap : Nat) (a' : Option Addr) (len' cap' : Nat) (l : List Sh) (w : World) (hT : Tab w) (h : IsH w a len cap l) (h' : IsH w a' len' cap' l) :
    Calls Tryd.prog 19 #[.slice a len cap, .slice a' len' cap'] w fun e w' => e = .returned (.bool true) ∧ Hid (Below w.heap.size w w' ∧ Tab w') :=
  (same_any a len cap a' len' cap' l w h h').mono fun _ _ h => ⟨h.1, h.2, hT.below' h.2⟩
end Go.Proofs.YtdiciobdknddkaaDoor

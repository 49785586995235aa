/- sagas that are one; sagas that are handed in -/
import Derived.Test.YtmkholgflhaacaaG
import Derived.Laws.StructEq
import Derived.ChangeSame
import Derived.SizedLaws
import Derived.Deep.Slices
namespace Go.Proofs.Ytmkholgflhaacaa
open Go.RowKit Go.ChangeShapes Go.WideShapes
set_option linter.unusedVariables false
def sameG (x y : Sg) : Bool := (x.od == y.od) && ((x.k == y.k) && ((x.at' == y.at') && (x.u == y.u)))
theorem sameG_self (x : Sg) : sameG x x = true := by simp [sameG]
theorem struct33 : Try.prog.underlying 33 = some (.struct (Try.prog.fieldsOf 33)) := by kernel_rfl
theorem stood33 : Try.prog.stoodInHeld 33 = false := by kernel_rfl
theorem guard33 : Try.prog.eqGuardType Try.prog.depth 33 = false := by kernel_rfl
theorem equal33 (a1 a2 a3 b1 b2 b3 : Int) (a4 b4 : Bool) (w : World) :
    (Op.equalIn 10000 33 (.agg #[.int .i64 a1, .int .u8 a2, .int .i64 a3, .bool a4]) (.agg #[.int .i64 b1, .int .u8 b2, .int .i64 b3, .bool b4])).run Try.prog w = .ok (sameG ⟨a1, a2, a3, a4⟩ ⟨b1, b2, b3, b4⟩) w := by
  have u3 := Try.underlying3
  have a3' := Try.isAgg3
  have z3 := Try.sizeOf3
  have u9 := Try.underlying22
  have a9 := Try.isAgg22
  have z9 := Try.sizeOf22
  have u4 := Try.underlying4
  have a4' := Try.isAgg4
  have z4 := Try.sizeOf4
  rw [show (10000 : Nat) = 9999 + 1 from rfl, run_equalIn_agg w 9999 33 _ _ struct33 stood33]
  simp only [Program.fieldsOf, Try.underlying33]
  go_simp
  simp only [sameG]
  by_cases h1 : a1 = b1 <;> by_cases h2 : a2 = b2 <;> by_cases h3 : a3 = b3 <;> cases a4 <;> cases b4 <;> simp [h1, h2, h3]
theorem eqg33 (op : BinOp) (a b : Operand) (xs ys : Array Value) (w : World) : (eqGuard op 33 a b (.agg xs) (.agg ys)).run Try.prog w = .ok () w := run_eqGuard_agg w op 33 a b xs ys guard33
theorem ocells33 : Try.prog.cellsOf 33 = 4 := by kernel_rfl
theorem ocells3 : Try.prog.cellsOf 3 = 1 := by kernel_rfl
theorem ocells22 : Try.prog.cellsOf 22 = 1 := by kernel_rfl
theorem ocells4 : Try.prog.cellsOf 4 = 1 := by kernel_rfl
theorem wf_bounds {n : Int} (h : (Lit.int .i64 n).wf = true) : i64B n := by
  unfold i64B
  simpa [Lit.wf, IntKind.min, IntKind.max, IntKind.bits, IntKind.signed] using h
theorem wf_bounds8 {n : Int} (h : (Lit.int .u8 n).wf = true) : u8B n := by
  unfold u8B
  simpa [Lit.wf, IntKind.min, IntKind.max, IntKind.bits, IntKind.signed] using h
/-- a saga that is handed in, of its four fields -/
theorem open_saga {H : Type} {enc : TypeId × Value → H} {W : World} {base : Nat} {spare : Nat → Bool} {held : Bool} {fuel : Nat} {cs : List Value} {x : DataW H × List MemPlace} (h : DataW.trod enc Try.prog W base spare held fuel 33 cs = some x) : ∃ s : Sg, cs = [.int .i64 s.od, .int .u8 s.k, .int .i64 s.at', .bool s.u] ∧ i64B s.od ∧ u8B s.k ∧ i64B s.at' := by
  obtain ⟨xs, n, rfl, rfl, hl, hx, hf⟩ := DataW.trod_struct Try.underlying33 h
  rw [ocells33] at hl
  have hx4 : xs.length = 4 := hx
  match xs, hx4, cs, hl with
  | [y0, y1, y2, y3], _, [v0, v1, v2, v3], _ =>
    have g0 : DataW.trod enc Try.prog W base spare held n 3 [v0] = some y0 := by simpa [ocells3] using hf 0 _ rfl
    have g1 : DataW.trod enc Try.prog W base spare held n 22 [v1] = some y1 := by simpa [ocells22] using hf 1 _ rfl
    have g2 : DataW.trod enc Try.prog W base spare held n 3 [v2] = some y2 := by simpa [ocells3] using hf 2 _ rfl
    have g3 : DataW.trod enc Try.prog W base spare held n 4 [v3] = some y3 := by simpa [ocells4] using hf 3 _ rfl
    obtain ⟨n0, e0, _, w0⟩ := DataW.trod_int Try.underlying3 g0
    obtain ⟨n1, e1, _, w1⟩ := DataW.trod_int Try.underlying22 g1
    obtain ⟨n2, e2, _, w2⟩ := DataW.trod_int Try.underlying3 g2
    obtain ⟨b3, e3, _⟩ := DataW.trod_bool Try.underlying4 g3
    cases e0; cases e1; cases e2; cases e3
    exact ⟨⟨n0, n1, n2, b3⟩, rfl, wf_bounds w0, wf_bounds8 w1, wf_bounds w2⟩
end Go.Proofs.Ytmkholgflhaacaa

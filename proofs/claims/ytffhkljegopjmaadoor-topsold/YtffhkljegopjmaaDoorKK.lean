/- cells that are one; Same; lives -/
import Derived.Test.YtffhkljegopjmaaDoorKJ
import Derived.Laws.StructEq
namespace Go.Proofs.YtffhkljegopjmaaDoor
open Go.RowKit
set_option maxRecDepth 40000
def sameC (x y : Cl) : Bool := (x.it == y.it) && ((x.wa == y.wa) && ((x.fr == y.fr) && ((x.he == y.he) && ((x.ou == y.ou) && (x.al == y.al)))))
theorem sameC_iff (x y : Cl) : sameC x y = true ↔ x = y := by
  obtain ⟨a1, a2, a3, a4, a5, a6⟩ := x
  obtain ⟨b1, b2, b3, b4, b5, b6⟩ := y
  simp only [sameC, Bool.and_eq_true, beq_iff_eq, Cl.mk.injEq]
theorem struct31 : Tryd.prog.underlying 43 = some (.struct (Tryd.prog.fieldsOf 43)) := by kernel_rfl
theorem stood31 : Tryd.prog.stoodInHeld 43 = false := by kernel_rfl
theorem guard31 : Tryd.prog.eqGuardType Tryd.prog.depth 43 = false := by kernel_rfl
theorem equal31 (a1 a2 a3 a4 a5 a6 b1 b2 b3 b4 b5 b6 : Int) (w : World) :
    (Op.equalIn 10000 43 (.agg #[.int .i64 a1, .int .i64 a2, .int .i64 a3, .int .i64 a4, .int .i64 a5, .int .i64 a6]) (.agg #[.int .i64 b1, .int .i64 b2, .int .i64 b3, .int .i64 b4, .int .i64 b5, .int .i64 b6])).run Tryd.prog w = .ok (sameC ⟨a1, a2, a3, a4, a5, a6⟩ ⟨b1, b2, b3, b4, b5, b6⟩) w := by
  have u3 := Tryd.underlying3
  have a3' := Tryd.isAgg3
  have z3 := Tryd.sizeOf3
  have u9 := Tryd.underlying2
  have a9 := Tryd.isAgg2
  have z9 := Tryd.sizeOf2
  rw [show (10000 : Nat) = 9999 + 1 from rfl, run_equalIn_agg w 9999 43 _ _ struct31 stood31]
  simp only [Program.fieldsOf, Tryd.underlying43]
  go_simp
  simp only [sameC]
  by_cases h1 : a1 = b1 <;> by_cases h2 : a2 = b2 <;> by_cases h3 : a3 = b3 <;> by_cases h4 : a4 = b4 <;> by_cases h5 : a5 = b5 <;> by_cases h6 : a6 = b6 <;> simp [h1, h2, h3, h4, h5, h6]
theorem eqg31 (op : BinOp) (a b : Operand) (xs ys : Array Value) (w : World) : (eqGuard op 43 a b (.agg xs) (.agg ys)).run Tryd.prog w = .ok () w := run_eqGuard_agg w op 43 a b xs ys guard31
theorem cl_ext {l l' : List Cl} (h : l.length = l'.length) (he : ∀ i, i < l.length → l.getD i Cl0 = l'.getD i Cl0) : l = l' := by
  apply List.ext_getElem h
  intro i h1 h2
  have := he i h1
  rw [List.getD_eq_getElem?_getD, List.getD_eq_getElem?_getD, List.getElem?_eq_getElem h1, List.getElem?_eq_getElem h2] at this
  exact this
/-- cells that are there and tell nothing of themselves -/
theorem mv1 : moveR 0 [] 1 1 5 = ([⟨1, 1, 5, 0, 0, 5⟩], 0) := by kernel_rfl
theorem mv2 : moveR 1 [⟨1, 1, 5, 0, 0, 5⟩] 1 1 3 = ([⟨1, 1, 2, 3, 0, 5⟩], 0) := by kernel_rfl
theorem mv3 : moveR 3 [⟨1, 1, 2, 3, 0, 5⟩] 1 1 2 = ([⟨1, 1, 2, 1, 2, 5⟩], 0) := by kernel_rfl
theorem mv4 : moveR 4 [⟨1, 1, 2, 1, 2, 5⟩] 1 1 3 = ([], 13) := by kernel_rfl
theorem mv5 : cellR [⟨1, 1, 2, 1, 2, 5⟩] 1 1 = (⟨1, 1, 2, 1, 2, 5⟩, 0) := by kernel_rfl
end Go.Proofs.YtffhkljegopjmaaDoor

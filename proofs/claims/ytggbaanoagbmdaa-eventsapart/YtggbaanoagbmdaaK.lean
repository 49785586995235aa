/- events that are one; Same -/
import Derived.Test.YtggbaanoagbmdaaJ
import Derived.Laws.StructEq
namespace Go.Proofs.Ytggbaanoagbmdaa
open Go.RowKit
def sameB (x y : Ev) : Bool := (x.st.toList == y.st.toList) && ((x.num == y.num) && ((x.glob == y.glob) && ((x.ma.toList == y.ma.toList) && (x.dt.toList == y.dt.toList))))
theorem sameB_iff (x y : Ev) : sameB x y = true ↔ x = y := by
  obtain ⟨a1, a2, a3, a4, a5⟩ := x
  obtain ⟨b1, b2, b3, b4, b5⟩ := y
  simp only [sameB, Bool.and_eq_true, beq_iff_eq, Ev.mk.injEq]
  constructor
  · rintro ⟨h1, h2, h3, h4, h5⟩
    exact ⟨str_inj h1, h2, h3, str_inj h4, str_inj h5⟩
  · rintro ⟨rfl, rfl, rfl, rfl, rfl⟩
    exact ⟨rfl, rfl, rfl, rfl, rfl⟩
theorem struct41 : Try.prog.underlying 41 = some (.struct (Try.prog.fieldsOf 41)) := by kernel_rfl
theorem stood41 : Try.prog.stoodInHeld 41 = false := by kernel_rfl
theorem guard41 : Try.prog.eqGuardType Try.prog.depth 41 = false := by kernel_rfl
theorem equal41 (a1 : ByteArray) (a2 a3 : Int) (a4 a5 b1 : ByteArray) (b2 b3 : Int) (b4 b5 : ByteArray) (w : World) :
    (Op.equalIn 10000 41 (.agg #[.string a1, .int .i64 a2, .int .i64 a3, .string a4, .string a5]) (.agg #[.string b1, .int .i64 b2, .int .i64 b3, .string b4, .string b5])).run Try.prog w = .ok (sameB ⟨a1, a2, a3, a4, a5⟩ ⟨b1, b2, b3, b4, b5⟩) w := by
  have u3 := Try.underlying3
  have a3' := Try.isAgg3
  have z3 := Try.sizeOf3
  have u9 := Try.underlying9
  have a9 := Try.isAgg9
  have z9 := Try.sizeOf9
  rw [show (10000 : Nat) = 9999 + 1 from rfl, run_equalIn_agg w 9999 41 _ _ struct41 stood41]
  simp only [Program.fieldsOf, Try.underlying41]
  go_simp
  simp only [sameB]
  by_cases h1 : a1.toList = b1.toList <;> by_cases h2 : a2 = b2 <;> by_cases h3 : a3 = b3 <;> by_cases h4 : a4.toList = b4.toList <;> by_cases h5 : a5.toList = b5.toList <;> simp [h1, h2, h3, h4, h5]
theorem eql41 (a1 : ByteArray) (a2 a3 : Int) (a4 a5 b1 : ByteArray) (b2 b3 : Int) (b4 b5 : ByteArray) (w : World) :
    (binOp .eql 41 (.agg #[.string a1, .int .i64 a2, .int .i64 a3, .string a4, .string a5]) (.agg #[.string b1, .int .i64 b2, .int .i64 b3, .string b4, .string b5])).run Try.prog w = .ok (.bool (sameB ⟨a1, a2, a3, a4, a5⟩ ⟨b1, b2, b3, b4, b5⟩)) w := by
  rw [run_eql_struct, equal41]
  rfl
theorem neq41 (a1 : ByteArray) (a2 a3 : Int) (a4 a5 b1 : ByteArray) (b2 b3 : Int) (b4 b5 : ByteArray) (w : World) :
    (binOp .neq 41 (.agg #[.string a1, .int .i64 a2, .int .i64 a3, .string a4, .string a5]) (.agg #[.string b1, .int .i64 b2, .int .i64 b3, .string b4, .string b5])).run Try.prog w = .ok (.bool (!sameB ⟨a1, a2, a3, a4, a5⟩ ⟨b1, b2, b3, b4, b5⟩)) w := by
  rw [run_neq_struct, equal41]
  rfl
theorem eqg41 (op : BinOp) (a b : Operand) (xs ys : Array Value) (w : World) : (eqGuard op 41 a b (.agg xs) (.agg ys)).run Try.prog w = .ok () w := run_eqGuard_agg w op 41 a b xs ys guard41
end Go.Proofs.Ytggbaanoagbmdaa

/- math/bits.Add64 at this dump -/
import Derived.Shelf.Spec.BitsCarry
import Derived.Test.YtoaekgacfnmmmaaProg
namespace Go.Proofs
open Go.Shelf
def Try.lays25_ren : Go.Shelf.Ren := ⟨fun | 25 => 43 | n => n, fun | 22 => 79 | n => n, fun | n => n⟩
theorem Try.lays25 : Go.Proofs.Lays7.n25 Try.prog Try.lays25_ren := {
  mixed := by kernel_rfl
  f25 := Try.func43.trans (congrArg some (by kernel_rfl))
  t22 := Try.underlying79
  a22 := Try.isAgg79
  z22 := Try.sizeOf79
  v22 := Try.zeroValue79
  i22 := by kernel_rfl }
end Go.Proofs

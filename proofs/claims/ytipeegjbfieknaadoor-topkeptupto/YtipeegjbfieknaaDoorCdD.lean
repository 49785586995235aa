/- contracts: ReadNum, ReadInt, ReadText -/
import Derived.Test.YtipeegjbfieknaaDoorCdC
namespace Go.Proofs.YtipeegjbfieknaaDoor
open Go.RowKit Cod
set_option maxRecDepth 40000
/-- a fresh cursor over an argument -/
theorem Cur.new {w : World} {a : Option Addr} {len cap : Nat} {l : List Nat} (h : IsB w a len cap l) : Cur (w.alloc (.cells #[.slice a len cap, .int .i64 0] 62)) w.heap.size a len cap l 0 := by
  have hn := heap_alloc_new w (.cells #[.slice a len cap, .int .i64 0] 62)
  refine ⟨?_, ?_, ?_, h.below ((Below.refl _ _).alloc (Nat.le_refl _) _), ?_, Nat.zero_le _⟩
  · rw [World.cell?_alloc_new]; rfl
  · rw [World.cell?_alloc_new]; rfl
  · unfold World.frozen?; rw [hn]; rfl
  · intro b off hb hlen
    rcases h.2.2.2.2 with ⟨h0, _⟩ | ⟨b', off', hb', hlt, _⟩
    · omega
    · rw [hb] at hb'; cases hb'; omega
theorem below_of_grown {w w' : World} {o : Obj} (hg : (w.alloc o).grownBy w' (some w.heap.size)) : Below w.heap.size w w' :=
  ⟨hg.os, hg.tape, hg.output, by have := hg.size; simp at this; omega, fun k hk => (hg.block k (by simp; omega) (by simp; omega)).trans (Below.heap_alloc _ _ _ hk)⟩
/-- a number read as a whole one -/
def zag (n : Nat) : Int := if n % 2 = 1 then -1 - (n / 2 : Nat) else (n / 2 : Nat)
theorem zag_zig (n : Int) : zag (zig n) = n := by unfold zag zig; split <;> split <;> omega
theorem zig_zag (n : Nat) : zig (zag n) = n := by unfold zag zig; split <;> split <;> omega
theorem zag_range (n : Nat) (h : n < 18446744073709551616) : -9223372036854775808 ≤ zag n ∧ zag n < 9223372036854775808 := by unfold zag; split <;> omega
end Go.Proofs.YtipeegjbfieknaaDoor

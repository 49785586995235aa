/- mvcc.Last -/
import Derived.Test.YtlkmcbelmldleaaGreatVJ
namespace Go.Proofs.YtlkmcbelmldleaaGreat
open Go.RowKit Go.Shelf
set_option maxRecDepth 40000
attribute [local go_sem] Oper.semAt_some
/-- the three boxes of Last -/
structure Tri (w : World) (N : Nat) (a : Option Addr) (len cap low : Nat) (n e : Int) : Prop where
  v : w.heap[N]? = some (.cells #[.slice a len cap, .int .u64 (low : Nat)] 31 (0, 0))
  n : Boxed w (N + 1) 29 (.int .u64 n)
  e : Boxed w (N + 1 + 1) 25 (.int .i64 e)
theorem Tri.lt {w : World} {N : Nat} {a : Option Addr} {len cap low : Nat} {n e : Int} (h : Tri w N a len cap low n e) : N + 3 ≤ w.heap.size := by have := h.e.lt; omega
theorem Tri.below {w w' : World} {N : Nat} {a : Option Addr} {len cap low : Nat} {n e : Int} (h : Tri w N a len cap low n e) (hb : Below w.heap.size w w') : Tri w' N a len cap low n e :=
  have hl := h.lt
  ⟨(hb.block _ (by omega)).trans h.v, (hb.block _ (by omega)).trans h.n, (hb.block _ (by omega)).trans h.e⟩
abbrev put2 (W : World) (N : Nat) (n e : Int) : World := (W.setCell ⟨N + 1, 0, none⟩ (.int .u64 n)).setCell ⟨N + 1 + 1, 0, none⟩ (.int .i64 e)
theorem Tri.put {w : World} {N : Nat} {a : Option Addr} {len cap low : Nat} {n e : Int} (h : Tri w N a len cap low n e) (n' e' : Int) : Tri (put2 w N n' e') N a len cap low n' e' := by
  refine ⟨?_, ?_, ?_⟩
  · rw [Below.heap_setCell _ _ _ _ (by show N ≠ N + 1 + 1; omega), Below.heap_setCell _ _ _ _ (by show N ≠ N + 1; omega)]
    exact h.v
  · exact set_other (h.n.set _) (by omega)
  · exact (set_other h.e (c := N + 1) (by omega)).set _
theorem Tri.turn {box : Option Nat} {A B : World} {N : Nat} {a : Option Addr} {len cap low : Nat} {n e : Int} (h : Tri A N a len cap low n e) (tu : Turn box A B) (hb : ∀ c, box = some c → N + 3 ≤ c) : Tri B N a len cap low n e := by
  have hne : ∀ c, c < N + 3 → box ≠ some c := fun c hc e => by have := hb c e; omega
  refine ⟨?_, turn_boxed tu h.n (hne _ (by omega)), turn_boxed tu h.e (hne _ (by omega))⟩
  have hl := h.lt
  cases tu with
  | lay o => exact (heap_alloc_old A o N (by omega)).trans h.v
  | draw => exact h.v
  | put c u hc => exact (Below.heap_setCell A ⟨c, 0, none⟩ u N (by have := hb c hc; show N ≠ c; omega)).trans h.v
theorem Tri.putObj {A : World} {N : Nat} {a : Option Addr} {len cap low : Nat} {n e : Int} (h : Tri A N a len cap low n e) {r : Nat} {o o' : Obj} (ho : A.heap[r]? = some o) (hc : o.isCells = false) : Tri (A.putObj r o') N a len cap low n e := by
  refine ⟨(World.putObj_heap_other ?_).trans h.v, put_boxed ho hc h.n, put_boxed ho hc h.e⟩
  rintro rfl
  rw [h.v] at ho; cases ho; cases hc
/-- when the last of versions was -/
def lastV (q : List Vr) : Nat := (q.getD (q.length - 1) Vr0).at_
/-- what Last answers -/
def lastR (low : Nat) (l : List Vr) (key : ByteArray) : Nat × Int := if goodB low l = true then (lastV (l.filter (sameK key)), 0) else (0, 2)
end Go.Proofs.YtlkmcbelmldleaaGreat

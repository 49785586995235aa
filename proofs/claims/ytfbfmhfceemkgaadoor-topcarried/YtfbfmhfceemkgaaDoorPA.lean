/- sagas in memory; the small functions -/
import Derived.Test.YtfbfmhfceemkgaaDoorRows
import Derived.WalkKit
import Derived.WalkSpells
import Derived.WalkLawsBesides
import Derived.Outline
import Derived.OpenShut
import Derived.Laws.Rows
import Derived.Laws.OwnMore
import Derived.Deep.QuietTactic
import Derived.BigQuiet
import Derived.Deep.RegionWith
import Derived.Deep.RegionLaw
import Derived.Deep.RegionHeld
import Derived.Deep.RegionHeldLaw
import Derived.Handy
import Derived.Maps.AppendAt
import Derived.Maps.Own
import Derived.Maps.OwnOps
import Derived.Maps.OwnSet
namespace Go.Proofs.YtfbfmhfceemkgaaDoor.Pl
open Go.RowKit
theorem hide {p : Prop} (h : p) : Hid p := h
theorem ret_int {x y : Int} (h : x = y) : Ending.returned (.int .i64 x) = .returned (.int .i64 y) := by rw [h]
theorem ret_bool {x y : Bool} (h : x = y) : Ending.returned (.bool x) = .returned (.bool y) := by rw [h]
theorem ret_und {x x' : Int} {b b' : Bool} (h : x = x') (h' : b = b') : Ending.returned (.tuple #[.int .u8 x, .bool b]) = .returned (.tuple #[.int .u8 x', .bool b']) := by rw [h, h']
def i64B (n : Int) : Prop := -9223372036854775808 ≤ n ∧ n ≤ 9223372036854775807
def u8B (n : Int) : Prop := 0 ≤ n ∧ n ≤ 255
/-- a saga -/
structure Sg where
  od : Int
  k : Int
  at' : Int
  u : Bool
abbrev vg (s : Sg) : Value := .agg #[.int .i64 s.od, .int .u8 s.k, .int .i64 s.at', .bool s.u]
/-- a block has a saga -/
def Blk (w : World) (g : Nat) (s : Sg) : Prop := w.heap[g]? = some (.cells #[.int .i64 s.od, .int .u8 s.k, .int .i64 s.at', .bool s.u] 27 (0, 0))
def SgAt (w : World) (g : Nat) (s : Sg) : Prop := w.cell? ⟨g, 0, none⟩ = some (.int .i64 s.od) ∧ w.cell? ⟨g, 1, none⟩ = some (.int .u8 s.k) ∧ w.cell? ⟨g, 2, none⟩ = some (.int .i64 s.at') ∧ w.cell? ⟨g, 3, none⟩ = some (.bool s.u)
theorem heap_lt {w : World} {b : Nat} {o : Obj} (h : w.heap[b]? = some o) : b < w.heap.size := by
  by_cases hlt : b < w.heap.size
  · exact hlt
  · rw [Array.getElem?_eq_none (by omega)] at h; cases h
theorem cell_blk {w : World} {b j : Nat} {cs : Array Value} {t : TypeId} {v : Value} (h : w.heap[b]? = some (.cells cs t (0, 0))) (hv : cs[j]? = some v) : w.cell? ⟨b, j, none⟩ = some v := by
  simp [World.cell?, h, hv]
theorem froz_blk {w : World} {b : Nat} {cs : Array Value} {t : TypeId} (h : w.heap[b]? = some (.cells cs t (0, 0))) (j : Nat) : w.frozen? ⟨b, j, none⟩ = false := by
  simp [World.frozen?, h]
theorem Blk.cells {w : World} {g : Nat} {s : Sg} (h : Blk w g s) : SgAt w g s := ⟨cell_blk h rfl, cell_blk h rfl, cell_blk h rfl, cell_blk h rfl⟩
theorem Blk.froz {w : World} {g : Nat} {s : Sg} (h : Blk w g s) (j : Nat) : w.frozen? ⟨g, j, none⟩ = false := froz_blk h j
theorem Blk.below {n : Nat} {w w' : World} {g : Nat} {s : Sg} (h : Blk w g s) (hn : g < n) (hb : Below n w w') : Blk w' g s := (hb.block g hn).trans h
theorem Blk.below' {w w' : World} {g : Nat} {s : Sg} (h : Blk w g s) (hb : Below w.heap.size w w') : Blk w' g s := h.below (heap_lt h) hb
/-- the steps of a kind -/
def stepsL (k : Int) : List Int := if k = 1 ∨ k = 2 then [1, 2, 3, 4, 5] else if k = 3 then [10, 11, 9] else []
def unV (s : Int) : Int := if s = 1 then 6 else if s = 2 then 7 else if s = 3 then 8 else if s = 4 then 9 else 0
def unB (s : Int) : Bool := decide (s = 1 ∨ s = 2 ∨ s = 3 ∨ s = 4)
def asB (s : Int) : Bool := decide (s = 2 ∨ s = 3 ∨ s = 4 ∨ s = 5 ∨ s = 7 ∨ s = 8 ∨ s = 9 ∨ s = 10)
def tuB (s : Int) : Bool := decide (s = 1 ∨ s = 2 ∨ s = 3 ∨ s = 4 ∨ s = 5 ∨ s = 10)
theorem as_any (s : Int) (w : World) : Calls Tryd.prog 7 #[.int .u8 s] w fun e w' => e = .returned (.bool (asB s)) ∧ w' = w := by
  have HT : Hid (asB s = decide (s = 2 ∨ s = 3 ∨ s = 4 ∨ s = 5 ∨ s = 7 ∨ s = 8 ∨ s = 9 ∨ s = 10)) := hide rfl
  go_enter Tryd.func7, Tryd.ntmps7
  go_wp2
  all_goals go_ret
  all_goals exact ⟨ret_bool (by rw [HT.out]; simp_all), rfl⟩
theorem tu_any (s : Int) (w : World) : Calls Tryd.prog 22 #[.int .u8 s] w fun e w' => e = .returned (.bool (tuB s)) ∧ w' = w := by
  have HT : Hid (tuB s = decide (s = 1 ∨ s = 2 ∨ s = 3 ∨ s = 4 ∨ s = 5 ∨ s = 10)) := hide rfl
  go_enter Tryd.func22, Tryd.ntmps22
  go_wp2
  all_goals go_ret
  all_goals exact ⟨ret_bool (by rw [HT.out]; simp_all), rfl⟩
/-- a row of the call's own: steps -/
def OwnK (w : World) (base : Nat) (v : Value) (xs : List Int) : Prop := w.ownsRow base 28 1 v xs.length (xs.map (Value.int .u8))
theorem OwnK.below {w w' : World} {base : Nat} {v : Value} {xs : List Int} (h : OwnK w base v xs) (hb : Below w.heap.size w w') : OwnK w' base v xs := by
  refine World.ownsRow.kept (row := none) h ⟨hb.os, hb.tape, hb.output, hb.size, fun k hk _ => hb.block k hk⟩ ?_
  cases hv : v.ownBlock
  · exact .inl rfl
  · exact .inr (by simp)
theorem OwnK.alloc {w : World} {base : Nat} {v : Value} {xs : List Int} (h : OwnK w base v xs) (o : Obj) : OwnK (w.alloc o) base v xs := World.ownsRow.alloc h o
theorem OwnK.mono {w : World} {base base' : Nat} {v : Value} {xs : List Int} (h : OwnK w base v xs) (hb : base' ≤ base) : OwnK w base' v xs := by
  refine ⟨h.1, ?_⟩
  rcases h.2 with h1 | ⟨g, cap, cur, e, hg, r⟩
  · exact .inl h1
  · exact .inr ⟨g, cap, cur, e, Nat.le_trans hb hg, r⟩
/-- its form -/
theorem OwnK.form {w : World} {base : Nat} {v : Value} {xs : List Int} (h : OwnK w base v xs) : ∃ a c, v = .slice a xs.length c ∧ (∀ j, j < xs.length → ∃ g, a = some ⟨g, 0, none⟩ ∧ g < w.heap.size ∧ base ≤ g ∧ w.cell? ⟨g, j, none⟩ = some (.int .u8 (xs.getD j 0)) ∧ w.frozen? ⟨g, j, none⟩ = false) := by
  rcases h.2 with ⟨rfl, h0⟩ | ⟨g, cap, cur, rfl, hb, hg, hn, hm, hs, ht⟩
  · exact ⟨none, 0, by rw [h0], fun j hj => by omega⟩
  · refine ⟨_, cap, rfl, fun j hj => ⟨g, rfl, heap_lt hg, hb, ?_, froz_blk hg j⟩⟩
    have := World.ownsRow.cellAt h j (by omega)
    rw [this]
    simp [List.getD_eq_getElem?_getD, List.getElem?_eq_getElem hj]
theorem row_new (w : World) (base : Nat) (xs : List Int) (hb : base ≤ w.heap.size) (hm : xs.length ≤ maxLen) : OwnK (w.alloc (.cells (xs.map (Value.int .u8)).toArray 28)) base (.slice (some ⟨w.heap.size, 0, none⟩) xs.length xs.length) xs :=
  ⟨by simp, .inr ⟨w.heap.size, xs.length, (xs.map (Value.int .u8)).toArray, rfl, hb, heap_alloc_new w _, Nat.le_refl _, hm, by simp, by rw [Nat.mul_one]; exact List.take_of_length_le (by simp)⟩⟩
end Go.Proofs.YtfbfmhfceemkgaaDoor.Pl

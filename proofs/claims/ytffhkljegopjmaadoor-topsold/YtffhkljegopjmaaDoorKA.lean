/- cells in memory -/
import Derived.Test.YtffhkljegopjmaaDoorRows
import Derived.WalkKit
import Derived.WalkSpells
import Derived.WalkLawsBesides
import Derived.Outline
import Derived.OpenShut
import Derived.Laws.Rows
import Derived.Deep.QuietTactic
import Derived.BigQuiet
import Derived.Deep.RegionWith
import Derived.Deep.RegionLaw
import Derived.Deep.RegionHeld
import Derived.Deep.RegionHeldLaw
import Derived.Handy
import Derived.Maps.AppendAt
namespace Go.Proofs.YtffhkljegopjmaaDoor
open Go.RowKit
set_option maxRecDepth 40000
theorem hide {p : Prop} (h : p) : Hid p := h
/-- a cell -/
structure Cl where
  it : Int
  wa : Int
  fr : Int
  he : Int
  ou : Int
  al : Int
abbrev clc (x : Cl) : List Value := [.int .i64 x.it, .int .i64 x.wa, .int .i64 x.fr, .int .i64 x.he, .int .i64 x.ou, .int .i64 x.al]
abbrev vc (x : Cl) : Value := .agg #[.int .i64 x.it, .int .i64 x.wa, .int .i64 x.fr, .int .i64 x.he, .int .i64 x.ou, .int .i64 x.al]
def Cl0 : Cl := ⟨0, 0, 0, 0, 0, 0⟩
def i64B (n : Int) : Prop := -9223372036854775808 ≤ n ∧ n ≤ 9223372036854775807
def okC (x : Cl) : Prop := i64B x.it ∧ i64B x.wa ∧ i64B x.fr ∧ i64B x.he ∧ i64B x.ou ∧ i64B x.al
/-- one cell in memory -/
def CellAt (w : World) (b o : Nat) (x : Cl) : Prop :=
  w.cell? ⟨b, o, none⟩ = some (.int .i64 x.it) ∧ w.cell? ⟨b, o + 1, none⟩ = some (.int .i64 x.wa) ∧ w.cell? ⟨b, o + 2, none⟩ = some (.int .i64 x.fr) ∧ w.cell? ⟨b, o + 3, none⟩ = some (.int .i64 x.he) ∧ w.cell? ⟨b, o + 4, none⟩ = some (.int .i64 x.ou) ∧ w.cell? ⟨b, o + 5, none⟩ = some (.int .i64 x.al)
theorem CellAt.block {w w' : World} {b o : Nat} {x : Cl} (h : CellAt w b o x) (k : ∀ j, w'.cell? ⟨b, j, none⟩ = w.cell? ⟨b, j, none⟩) : CellAt w' b o x :=
  ⟨(k _).trans h.1, (k _).trans h.2.1, (k _).trans h.2.2.1, (k _).trans h.2.2.2.1, (k _).trans h.2.2.2.2.1, (k _).trans h.2.2.2.2.2⟩
theorem CellAt.below {n : Nat} {w w' : World} {b o : Nat} {x : Cl} (h : CellAt w b o x) (hn : b < n) (hb : Below n w w') : CellAt w' b o x :=
  h.block fun _ => World.cell?_of_block (hb.block b hn)
/-- cells in memory -/
def IsC (w : World) (a : Option Addr) (len cap : Nat) (l : List Cl) : Prop :=
  l.length = len ∧ len ≤ cap ∧ cap ≤ maxLen ∧ (∀ x ∈ l, okC x) ∧ (∀ i, i < len → ∃ b off, a = some ⟨b, off, none⟩ ∧ b < w.heap.size ∧ CellAt w b (off + i * 6) (l.getD i Cl0)) ∧ (a = none → cap = 0)
theorem IsC.below {n : Nat} {w w' : World} {a : Option Addr} {len cap : Nat} {l : List Cl} (h : IsC w a len cap l) (hn : ∀ b off, a = some ⟨b, off, none⟩ → 0 < len → b < n) (hb : Below n w w') : IsC w' a len cap l := by
  refine ⟨h.1, h.2.1, h.2.2.1, h.2.2.2.1, fun i hi => ?_, h.2.2.2.2.2⟩
  obtain ⟨b, off, e, hlt, h0⟩ := h.2.2.2.2.1 i hi
  exact ⟨b, off, e, Nat.lt_of_lt_of_le hlt hb.size, h0.below (hn b off e (by omega)) hb⟩
theorem IsC.lt {w : World} {a : Option Addr} {len cap : Nat} {l : List Cl} (h : IsC w a len cap l) : ∀ b off, a = some ⟨b, off, none⟩ → 0 < len → b < w.heap.size := by
  intro b off e h0
  obtain ⟨b', off', e', hlt, _⟩ := h.2.2.2.2.1 0 h0
  rw [e] at e'; cases e'; exact hlt
theorem IsC.below' {w w' : World} {a : Option Addr} {len cap : Nat} {l : List Cl} (h : IsC w a len cap l) (hb : Below w.heap.size w w') : IsC w' a len cap l := h.below h.lt hb
theorem isC_nil (w : World) : IsC w none 0 0 [] := ⟨rfl, Nat.le_refl _, Nat.zero_le _, by simp, fun i hi => by omega, fun _ => rfl⟩
theorem heap_lt {w : World} {b : Nat} {o : Obj} (h : w.heap[b]? = some o) : b < w.heap.size := by
  by_cases hlt : b < w.heap.size
  · exact hlt
  · rw [Array.getElem?_eq_none (by omega)] at h; cases h
theorem cell_blk {w : World} {b j : Nat} {cs : Array Value} {t : TypeId} {v : Value} (h : w.heap[b]? = some (.cells cs t (0, 0))) (hv : cs[j]? = some v) : w.cell? ⟨b, j, none⟩ = some v := by
  simp [World.cell?, h, hv]
theorem flat_get (l : List Cl) : ∀ (i j : Nat), j < 6 → i < l.length → (l.flatMap clc)[i * 6 + j]? = (clc (l.getD i Cl0))[j]? := by
  induction l with
  | nil => intro i j _ hi; simp at hi
  | cons x r ih =>
    intro i j hj hi
    cases i with
    | zero => simp only [List.flatMap_cons, List.getD_cons_zero]; rw [List.getElem?_append_left (by simp; omega)]; simp
    | succ i =>
      simp only [List.flatMap_cons, List.getD_cons_succ]
      rw [List.getElem?_append_right (by simp; omega)]
      rw [← ih i j hj (by simpa using hi)]
      congr 1
      simp
      omega
theorem flat_len (l : List Cl) : (l.flatMap clc).length = l.length * 6 := by
  induction l with
  | nil => rfl
  | cons x r ih => simp only [List.flatMap_cons, List.length_append, ih, List.length_cons]; simp; omega
theorem cellAt_of {w : World} {b o : Nat} {x : Cl} (h : ∀ j, j < 6 → w.cell? ⟨b, o + j, none⟩ = (clc x)[j]?) : CellAt w b o x := by
  refine ⟨?_, ?_, ?_, ?_, ?_, ?_⟩
  · simpa using h 0 (by omega)
  · simpa using h 1 (by omega)
  · simpa using h 2 (by omega)
  · simpa using h 3 (by omega)
  · simpa using h 4 (by omega)
  · simpa using h 5 (by omega)
/-- an own row of cells -/
theorem own_isC {w : World} {base : Nat} {v : Value} {n : Nat} {l : List Cl} (hl : l.length = n) (ho : ∀ x ∈ l, okC x) (h : w.ownsRow base 43 6 v n (l.flatMap clc)) : ∃ a cap, v = .slice a n cap ∧ IsC w a n cap l ∧ ∀ b off, a = some ⟨b, off, none⟩ → base ≤ b := by
  rcases h.2 with ⟨rfl, rfl⟩ | ⟨g, cap, cur, rfl, hb, hg, hn, hm, hs, ht⟩
  · exact ⟨none, 0, rfl, ⟨hl, Nat.le_refl _, Nat.zero_le _, ho, fun i hi => by omega, fun _ => rfl⟩, by intro b off h; cases h⟩
  · refine ⟨_, cap, rfl, ⟨hl, hn, hm, ho, fun i hi => ?_, by intro h; cases h⟩, by intro b off h; cases h; exact hb⟩
    refine ⟨g, 0, rfl, heap_lt hg, cellAt_of fun j hj => ?_⟩
    have h1 : cur.toList[i * 6 + j]? = (l.flatMap clc)[i * 6 + j]? := by
      rw [← ht, List.getElem?_take]
      rw [if_pos (by omega)]
    rw [Nat.zero_add, ← flat_get l i j hj (by omega), ← h1]
    simp only [World.cell?, hg]
    simp
end Go.Proofs.YtffhkljegopjmaaDoor

/- shipments in memory -/
import Derived.Test.YtfbfmhfceemkgaaDoorRows
import Derived.WalkKit
import Derived.WalkSpells
import Derived.WalkLawsBesides
import Derived.Outline
import Derived.OpenShut
import Derived.Laws.Rows
import Derived.Deep.QuietTactic
import Derived.BigQuiet
import Derived.Deep.RegionWith
import Derived.Deep.RegionLaw
import Derived.Deep.RegionHeld
import Derived.Deep.RegionHeldLaw
import Derived.Handy
import Derived.Maps.AppendAt
namespace Go.Proofs.YtfbfmhfceemkgaaDoor
open Go.RowKit
theorem hide {p : Prop} (h : p) : Hid p := h
/-- a shipment -/
structure Sh where
  od : Int
  st : Int
abbrev shc (x : Sh) : List Value := [.int .i64 x.od, .int .u8 x.st]
abbrev vs (x : Sh) : Value := .agg #[.int .i64 x.od, .int .u8 x.st]
def Sh0 : Sh := ⟨0, 0⟩
def i64B (n : Int) : Prop := -9223372036854775808 ≤ n ∧ n ≤ 9223372036854775807
def u8B (n : Int) : Prop := 0 ≤ n ∧ n ≤ 255
def okS (x : Sh) : Prop := i64B x.od ∧ u8B x.st
/-- one shipment in memory -/
def ShAt (w : World) (b o : Nat) (x : Sh) : Prop :=
  w.cell? ⟨b, o, none⟩ = some (.int .i64 x.od) ∧ w.cell? ⟨b, o + 1, none⟩ = some (.int .u8 x.st)
theorem ShAt.block {w w' : World} {b o : Nat} {x : Sh} (h : ShAt w b o x) (k : ∀ j, w'.cell? ⟨b, j, none⟩ = w.cell? ⟨b, j, none⟩) : ShAt w' b o x :=
  ⟨(k _).trans h.1, (k _).trans h.2⟩
theorem ShAt.below {n : Nat} {w w' : World} {b o : Nat} {x : Sh} (h : ShAt w b o x) (hn : b < n) (hb : Below n w w') : ShAt w' b o x :=
  h.block fun _ => World.cell?_of_block (hb.block b hn)
/-- shipments in memory -/
def IsH (w : World) (a : Option Addr) (len cap : Nat) (l : List Sh) : Prop :=
  l.length = len ∧ len ≤ cap ∧ cap ≤ maxLen ∧ (∀ x ∈ l, okS x) ∧ (∀ i, i < len → ∃ b off, a = some ⟨b, off, none⟩ ∧ b < w.heap.size ∧ ShAt w b (off + i * 2) (l.getD i Sh0)) ∧ (a = none → cap = 0)
theorem IsH.below {n : Nat} {w w' : World} {a : Option Addr} {len cap : Nat} {l : List Sh} (h : IsH w a len cap l) (hn : ∀ b off, a = some ⟨b, off, none⟩ → 0 < len → b < n) (hb : Below n w w') : IsH w' a len cap l := by
  refine ⟨h.1, h.2.1, h.2.2.1, h.2.2.2.1, fun i hi => ?_, h.2.2.2.2.2⟩
  obtain ⟨b, off, e, hlt, h0⟩ := h.2.2.2.2.1 i hi
  exact ⟨b, off, e, Nat.lt_of_lt_of_le hlt hb.size, h0.below (hn b off e (by omega)) hb⟩
theorem IsH.lt {w : World} {a : Option Addr} {len cap : Nat} {l : List Sh} (h : IsH w a len cap l) : ∀ b off, a = some ⟨b, off, none⟩ → 0 < len → b < w.heap.size := by
  intro b off e h0
  obtain ⟨b', off', e', hlt, _⟩ := h.2.2.2.2.1 0 h0
  rw [e] at e'; cases e'; exact hlt
theorem IsH.below' {w w' : World} {a : Option Addr} {len cap : Nat} {l : List Sh} (h : IsH w a len cap l) (hb : Below w.heap.size w w') : IsH w' a len cap l := h.below h.lt hb
theorem isH_nil (w : World) : IsH w none 0 0 [] := ⟨rfl, Nat.le_refl _, Nat.zero_le _, by simp, fun i hi => by omega, fun _ => rfl⟩
theorem heap_lt {w : World} {b : Nat} {o : Obj} (h : w.heap[b]? = some o) : b < w.heap.size := by
  by_cases hlt : b < w.heap.size
  · exact hlt
  · rw [Array.getElem?_eq_none (by omega)] at h; cases h
theorem cell_blk {w : World} {b j : Nat} {cs : Array Value} {t : TypeId} {v : Value} (h : w.heap[b]? = some (.cells cs t (0, 0))) (hv : cs[j]? = some v) : w.cell? ⟨b, j, none⟩ = some v := by
  simp [World.cell?, h, hv]
theorem flat_get (l : List Sh) : ∀ (i j : Nat), j < 2 → i < l.length → (l.flatMap shc)[i * 2 + j]? = (shc (l.getD i Sh0))[j]? := by
  induction l with
  | nil => intro i j _ hi; simp at hi
  | cons x r ih =>
    intro i j hj hi
    cases i with
    | zero => simp only [List.flatMap_cons, List.getD_cons_zero]; rw [List.getElem?_append_left (by simp; omega)]; simp
    | succ i =>
      simp only [List.flatMap_cons, List.getD_cons_succ]
      rw [List.getElem?_append_right (by simp; omega)]
      rw [← ih i j hj (by simpa using hi)]
      congr 1
      simp
      omega
theorem flat_len (l : List Sh) : (l.flatMap shc).length = l.length * 2 := by
  induction l with
  | nil => rfl
  | cons x r ih => simp only [List.flatMap_cons, List.length_append, ih, List.length_cons]; simp; omega
theorem shAt_of {w : World} {b o : Nat} {x : Sh} (h : ∀ j, j < 2 → w.cell? ⟨b, o + j, none⟩ = (shc x)[j]?) : ShAt w b o x := by
  refine ⟨?_, ?_⟩
  · simpa using h 0 (by omega)
  · simpa using h 1 (by omega)
/-- an own row of shipments -/
theorem own_isH {w : World} {base : Nat} {v : Value} {n : Nat} {l : List Sh} (hl : l.length = n) (ho : ∀ x ∈ l, okS x) (h : w.ownsRow base 55 2 v n (l.flatMap shc)) : ∃ a cap, v = .slice a n cap ∧ IsH w a n cap l ∧ ∀ b off, a = some ⟨b, off, none⟩ → base ≤ b := by
  rcases h.2 with ⟨rfl, rfl⟩ | ⟨g, cap, cur, rfl, hb, hg, hn, hm, hs, ht⟩
  · exact ⟨none, 0, rfl, ⟨hl, Nat.le_refl _, Nat.zero_le _, ho, fun i hi => by omega, fun _ => rfl⟩, by intro b off h; cases h⟩
  · refine ⟨_, cap, rfl, ⟨hl, hn, hm, ho, fun i hi => ?_, by intro h; cases h⟩, by intro b off h; cases h; exact hb⟩
    refine ⟨g, 0, rfl, heap_lt hg, shAt_of fun j hj => ?_⟩
    have h1 : cur.toList[i * 2 + j]? = (l.flatMap shc)[i * 2 + j]? := by
      rw [← ht, List.getElem?_take]
      rw [if_pos (by omega)]
    rw [Nat.zero_add, ← flat_get l i j hj (by omega), ← h1]
    simp only [World.cell?, hg]
    simp
/-- what a move makes of a state -/
def mk (s m : Int) : Int :=
  if s = 0 ∧ m = 1 then 1 else if s = 1 ∧ m = 2 then 2 else if s = 1 ∧ m = 4 then 4 else if s = 2 ∧ m = 3 then 3 else if s = 2 ∧ m = 5 then 5 else if s = 3 ∧ m = 5 then 5 else if s = 5 ∧ m = 6 then 6 else 0
/-- the table is laid -/
def Tab (w : World) : Prop := 0 < w.heap.size ∧ ∀ s m : Nat, s < 7 → m < 7 → w.cell? ⟨0, s * 7 + m, none⟩ = some (.int .u8 (mk s m))
theorem Tab.below {n : Nat} {w w' : World} (h : Tab w) (hn : 0 < n) (hb : Below n w w') : Tab w' :=
  ⟨Nat.lt_of_lt_of_le h.1 hb.size, fun s m hs hm => (World.cell?_of_block (hb.block 0 hn)).trans (h.2 s m hs hm)⟩
theorem Tab.below' {w w' : World} (h : Tab w) (hb : Below w.heap.size w w') : Tab w' := h.below h.1 hb
end Go.Proofs.YtfbfmhfceemkgaaDoor

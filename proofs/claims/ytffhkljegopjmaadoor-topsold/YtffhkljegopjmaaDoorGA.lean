/- pays and postings in memory -/
import Derived.Test.YtffhkljegopjmaaDoorRows
import Derived.WalkKit
import Derived.WalkSpells
import Derived.WalkLawsBesides
import Derived.Outline
import Derived.OpenShut
import Derived.Laws.Rows
import Derived.Deep.QuietTactic
import Derived.BigQuiet
import Derived.Deep.RegionWith
import Derived.Deep.RegionLaw
import Derived.Deep.RegionHeld
import Derived.Deep.RegionHeldLaw
import Derived.Handy
import Derived.Maps.AppendAt
namespace Go.Proofs.YtffhkljegopjmaaDoor.Lg
open Go.RowKit
set_option maxRecDepth 40000
theorem hide {p : Prop} (h : p) : Hid p := h
/-- a pay -/
structure Py where
  o : Int
  op : Int
  ca : Int
  re : Int
/-- a posting -/
structure Pg where
  o : Int
  fr : Int
  to : Int
  am : Int
abbrev pyc (x : Py) : List Value := [.int .i64 x.o, .int .i64 x.op, .int .i64 x.ca, .int .i64 x.re]
abbrev vp (x : Py) : Value := .agg #[.int .i64 x.o, .int .i64 x.op, .int .i64 x.ca, .int .i64 x.re]
abbrev pgc (x : Pg) : List Value := [.int .i64 x.o, .int .u8 x.fr, .int .u8 x.to, .int .i64 x.am]
abbrev vg (x : Pg) : Value := .agg #[.int .i64 x.o, .int .u8 x.fr, .int .u8 x.to, .int .i64 x.am]
def Py0 : Py := ⟨0, 0, 0, 0⟩
def Pg0 : Pg := ⟨0, 0, 0, 0⟩
def i64B (n : Int) : Prop := -9223372036854775808 ≤ n ∧ n ≤ 9223372036854775807
def okP (x : Py) : Prop := i64B x.o ∧ i64B x.op ∧ i64B x.ca ∧ i64B x.re
def okG (x : Pg) : Prop := i64B x.o ∧ (0 ≤ x.fr ∧ x.fr ≤ 255) ∧ (0 ≤ x.to ∧ x.to ≤ 255) ∧ i64B x.am
def PayAt (w : World) (b o : Nat) (x : Py) : Prop :=
  w.cell? ⟨b, o, none⟩ = some (.int .i64 x.o) ∧ w.cell? ⟨b, o + 1, none⟩ = some (.int .i64 x.op) ∧ w.cell? ⟨b, o + 2, none⟩ = some (.int .i64 x.ca) ∧ w.cell? ⟨b, o + 3, none⟩ = some (.int .i64 x.re)
def PostAt (w : World) (b o : Nat) (x : Pg) : Prop :=
  w.cell? ⟨b, o, none⟩ = some (.int .i64 x.o) ∧ w.cell? ⟨b, o + 1, none⟩ = some (.int .u8 x.fr) ∧ w.cell? ⟨b, o + 2, none⟩ = some (.int .u8 x.to) ∧ w.cell? ⟨b, o + 3, none⟩ = some (.int .i64 x.am)
theorem PayAt.block {w w' : World} {b o : Nat} {x : Py} (h : PayAt w b o x) (k : ∀ j, w'.cell? ⟨b, j, none⟩ = w.cell? ⟨b, j, none⟩) : PayAt w' b o x :=
  ⟨(k _).trans h.1, (k _).trans h.2.1, (k _).trans h.2.2.1, (k _).trans h.2.2.2⟩
theorem PayAt.below {n : Nat} {w w' : World} {b o : Nat} {x : Py} (h : PayAt w b o x) (hn : b < n) (hb : Below n w w') : PayAt w' b o x := h.block fun _ => World.cell?_of_block (hb.block b hn)
theorem PostAt.block {w w' : World} {b o : Nat} {x : Pg} (h : PostAt w b o x) (k : ∀ j, w'.cell? ⟨b, j, none⟩ = w.cell? ⟨b, j, none⟩) : PostAt w' b o x :=
  ⟨(k _).trans h.1, (k _).trans h.2.1, (k _).trans h.2.2.1, (k _).trans h.2.2.2⟩
theorem PostAt.below {n : Nat} {w w' : World} {b o : Nat} {x : Pg} (h : PostAt w b o x) (hn : b < n) (hb : Below n w w') : PostAt w' b o x := h.block fun _ => World.cell?_of_block (hb.block b hn)
/-- pays in memory -/
def IsP (w : World) (a : Option Addr) (len cap : Nat) (l : List Py) : Prop :=
  l.length = len ∧ len ≤ cap ∧ cap ≤ maxLen ∧ (∀ x ∈ l, okP x) ∧ (∀ i, i < len → ∃ b off, a = some ⟨b, off, none⟩ ∧ b < w.heap.size ∧ PayAt w b (off + i * 4) (l.getD i Py0)) ∧ (a = none → cap = 0)
theorem IsP.below {n : Nat} {w w' : World} {a : Option Addr} {len cap : Nat} {l : List Py} (h : IsP w a len cap l) (hn : ∀ b off, a = some ⟨b, off, none⟩ → 0 < len → b < n) (hb : Below n w w') : IsP w' a len cap l := by
  refine ⟨h.1, h.2.1, h.2.2.1, h.2.2.2.1, fun i hi => ?_, h.2.2.2.2.2⟩
  obtain ⟨b, off, e, hlt, h0⟩ := h.2.2.2.2.1 i hi
  exact ⟨b, off, e, Nat.lt_of_lt_of_le hlt hb.size, h0.below (hn b off e (by omega)) hb⟩
theorem IsP.lt {w : World} {a : Option Addr} {len cap : Nat} {l : List Py} (h : IsP w a len cap l) : ∀ b off, a = some ⟨b, off, none⟩ → 0 < len → b < w.heap.size := by
  intro b off e h0
  obtain ⟨b', off', e', hlt, _⟩ := h.2.2.2.2.1 0 h0
  rw [e] at e'; cases e'; exact hlt
theorem IsP.below' {w w' : World} {a : Option Addr} {len cap : Nat} {l : List Py} (h : IsP w a len cap l) (hb : Below w.heap.size w w') : IsP w' a len cap l := h.below h.lt hb
theorem isP_nil (w : World) : IsP w none 0 0 [] := ⟨rfl, Nat.le_refl _, Nat.zero_le _, by simp, fun i hi => by omega, fun _ => rfl⟩
/-- postings in memory -/
def IsG (w : World) (a : Option Addr) (len cap : Nat) (l : List Pg) : Prop :=
  l.length = len ∧ len ≤ cap ∧ cap ≤ maxLen ∧ (∀ x ∈ l, okG x) ∧ (∀ i, i < len → ∃ b off, a = some ⟨b, off, none⟩ ∧ b < w.heap.size ∧ PostAt w b (off + i * 4) (l.getD i Pg0)) ∧ (a = none → cap = 0)
theorem IsG.below {n : Nat} {w w' : World} {a : Option Addr} {len cap : Nat} {l : List Pg} (h : IsG w a len cap l) (hn : ∀ b off, a = some ⟨b, off, none⟩ → 0 < len → b < n) (hb : Below n w w') : IsG w' a len cap l := by
  refine ⟨h.1, h.2.1, h.2.2.1, h.2.2.2.1, fun i hi => ?_, h.2.2.2.2.2⟩
  obtain ⟨b, off, e, hlt, h0⟩ := h.2.2.2.2.1 i hi
  exact ⟨b, off, e, Nat.lt_of_lt_of_le hlt hb.size, h0.below (hn b off e (by omega)) hb⟩
theorem IsG.lt {w : World} {a : Option Addr} {len cap : Nat} {l : List Pg} (h : IsG w a len cap l) : ∀ b off, a = some ⟨b, off, none⟩ → 0 < len → b < w.heap.size := by
  intro b off e h0
  obtain ⟨b', off', e', hlt, _⟩ := h.2.2.2.2.1 0 h0
  rw [e] at e'; cases e'; exact hlt
theorem IsG.below' {w w' : World} {a : Option Addr} {len cap : Nat} {l : List Pg} (h : IsG w a len cap l) (hb : Below w.heap.size w w') : IsG w' a len cap l := h.below h.lt hb
theorem isG_nil (w : World) : IsG w none 0 0 [] := ⟨rfl, Nat.le_refl _, Nat.zero_le _, by simp, fun i hi => by omega, fun _ => rfl⟩
theorem heap_lt {w : World} {b : Nat} {o : Obj} (h : w.heap[b]? = some o) : b < w.heap.size := by
  by_cases hlt : b < w.heap.size
  · exact hlt
  · rw [Array.getElem?_eq_none (by omega)] at h; cases h
theorem cell_blk {w : World} {b j : Nat} {cs : Array Value} {t : TypeId} {v : Value} (h : w.heap[b]? = some (.cells cs t (0, 0))) (hv : cs[j]? = some v) : w.cell? ⟨b, j, none⟩ = some v := by
  simp [World.cell?, h, hv]
theorem ret_int {x y : Int} (h : x = y) : Ending.returned (.int .i64 x) = .returned (.int .i64 y) := by rw [h]
theorem ret_bool {x y : Bool} (h : x = y) : Ending.returned (.bool x) = .returned (.bool y) := by rw [h]
theorem wrap64 {n : Int} (h : -9223372036854775808 ≤ n) (h' : n ≤ 9223372036854775807) : IntKind.i64.wrap n = n := by
  simp [IntKind.wrap_i64]; omega
end Go.Proofs.YtffhkljegopjmaaDoor.Lg

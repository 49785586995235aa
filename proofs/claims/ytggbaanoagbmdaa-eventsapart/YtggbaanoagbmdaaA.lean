/- events in memory -/
import Derived.Test.YtggbaanoagbmdaaRows
import Derived.WalkKit
import Derived.WalkSpells
import Derived.WalkLawsBesides
import Derived.Outline
import Derived.OpenShut
import Derived.Laws.Rows
import Derived.Deep.QuietTactic
import Derived.BigQuiet
import Derived.Deep.RegionWith
import Derived.Deep.RegionLaw
import Derived.Deep.RegionHeld
import Derived.Deep.RegionHeldLaw
import Derived.Handy
import Derived.Maps.AppendAt
namespace Go.Proofs.Ytggbaanoagbmdaa
open Go.RowKit
theorem hide {p : Prop} (h : p) : Hid p := h
/-- an event -/
structure Ev where
  st : ByteArray
  num : Int
  glob : Int
  ma : ByteArray
  dt : ByteArray
abbrev evc (x : Ev) : List Value := [.string x.st, .int .i64 x.num, .int .i64 x.glob, .string x.ma, .string x.dt]
abbrev vv (x : Ev) : Value := .agg #[.string x.st, .int .i64 x.num, .int .i64 x.glob, .string x.ma, .string x.dt]
def Ev0 : Ev := ⟨⟨#[]⟩, 0, 0, ⟨#[]⟩, ⟨#[]⟩⟩
def okE (x : Ev) : Prop := x.st.size ≤ maxLen ∧ x.ma.size ≤ maxLen ∧ x.dt.size ≤ maxLen ∧ (-9223372036854775808 ≤ x.num ∧ x.num ≤ 9223372036854775807) ∧ (-9223372036854775808 ≤ x.glob ∧ x.glob ≤ 9223372036854775807)
/-- events in memory -/
def IsE (w : World) (a : Option Addr) (len cap : Nat) (l : List Ev) : Prop :=
  l.length = len ∧ len ≤ cap ∧ cap ≤ maxLen ∧ (∀ x ∈ l, okE x) ∧ ∀ i, i < len → ∃ b off, a = some ⟨b, off, none⟩ ∧ b < w.heap.size ∧ w.cell? ⟨b, off + i * 5, none⟩ = some (.string (l.getD i Ev0).st) ∧ w.cell? ⟨b, off + i * 5 + 1, none⟩ = some (.int .i64 (l.getD i Ev0).num) ∧ w.cell? ⟨b, off + i * 5 + 2, none⟩ = some (.int .i64 (l.getD i Ev0).glob) ∧ w.cell? ⟨b, off + i * 5 + 3, none⟩ = some (.string (l.getD i Ev0).ma) ∧ w.cell? ⟨b, off + i * 5 + 4, none⟩ = some (.string (l.getD i Ev0).dt)
theorem IsE.below {n : Nat} {w w' : World} {a : Option Addr} {len cap : Nat} {l : List Ev} (h : IsE w a len cap l) (hn : ∀ b off, a = some ⟨b, off, none⟩ → 0 < len → b < n) (hb : Below n w w') : IsE w' a len cap l := by
  refine ⟨h.1, h.2.1, h.2.2.1, h.2.2.2.1, fun i hi => ?_⟩
  obtain ⟨b, off, e, hlt, h0, h1, h2, h3, h4⟩ := h.2.2.2.2 i hi
  have k : ∀ j, w'.cell? ⟨b, j, none⟩ = w.cell? ⟨b, j, none⟩ := fun j => World.cell?_of_block (hb.block b (hn b off e (by omega)))
  exact ⟨b, off, e, Nat.lt_of_lt_of_le hlt hb.size, (k _).trans h0, (k _).trans h1, (k _).trans h2, (k _).trans h3, (k _).trans h4⟩
theorem IsE.lt {w : World} {a : Option Addr} {len cap : Nat} {l : List Ev} (h : IsE w a len cap l) : ∀ b off, a = some ⟨b, off, none⟩ → 0 < len → b < w.heap.size := by
  intro b off e h0
  obtain ⟨b', off', e', hlt, _⟩ := h.2.2.2.2 0 h0
  rw [e] at e'; cases e'; exact hlt
theorem IsE.below' {w w' : World} {a : Option Addr} {len cap : Nat} {l : List Ev} (h : IsE w a len cap l) (hb : Below w.heap.size w w') : IsE w' a len cap l := h.below h.lt hb
theorem isE_nil (w : World) : IsE w none 0 0 [] := ⟨rfl, Nat.le_refl _, Nat.zero_le _, by simp, fun i hi => by omega⟩
/-- strings in memory -/
def IsT (w : World) (a : Option Addr) (len cap : Nat) (l : List ByteArray) : Prop :=
  l.length = len ∧ len ≤ cap ∧ cap ≤ maxLen ∧ (∀ x ∈ l, x.size ≤ maxLen) ∧ ∀ i, i < len → ∃ b off, a = some ⟨b, off, none⟩ ∧ b < w.heap.size ∧ w.cell? ⟨b, off + i, none⟩ = some (.string (l.getD i ⟨#[]⟩))
theorem IsT.below {n : Nat} {w w' : World} {a : Option Addr} {len cap : Nat} {l : List ByteArray} (h : IsT w a len cap l) (hn : ∀ b off, a = some ⟨b, off, none⟩ → 0 < len → b < n) (hb : Below n w w') : IsT w' a len cap l := by
  refine ⟨h.1, h.2.1, h.2.2.1, h.2.2.2.1, fun i hi => ?_⟩
  obtain ⟨b, off, e, hlt, h0⟩ := h.2.2.2.2 i hi
  exact ⟨b, off, e, Nat.lt_of_lt_of_le hlt hb.size, (World.cell?_of_block (hb.block b (hn b off e (by omega)))).trans h0⟩
theorem IsT.lt {w : World} {a : Option Addr} {len cap : Nat} {l : List ByteArray} (h : IsT w a len cap l) : ∀ b off, a = some ⟨b, off, none⟩ → 0 < len → b < w.heap.size := by
  intro b off e h0
  obtain ⟨b', off', e', hlt, _⟩ := h.2.2.2.2 0 h0
  rw [e] at e'; cases e'; exact hlt
theorem IsT.below' {w w' : World} {a : Option Addr} {len cap : Nat} {l : List ByteArray} (h : IsT w a len cap l) (hb : Below w.heap.size w w') : IsT w' a len cap l := h.below h.lt hb
theorem isT_nil (w : World) : IsT w none 0 0 [] := ⟨rfl, Nat.le_refl _, Nat.zero_le _, by simp, fun i hi => by omega⟩
theorem heap_lt {w : World} {b : Nat} {o : Obj} (h : w.heap[b]? = some o) : b < w.heap.size := by
  by_cases hlt : b < w.heap.size
  · exact hlt
  · rw [Array.getElem?_eq_none (by omega)] at h; cases h
theorem cell_blk {w : World} {b j : Nat} {cs : Array Value} {t : TypeId} {v : Value} (h : w.heap[b]? = some (.cells cs t (0, 0))) (hv : cs[j]? = some v) : w.cell? ⟨b, j, none⟩ = some v := by
  simp [World.cell?, h, hv]
/-- an own row of events -/
theorem own_isE {w : World} {base : Nat} {v : Value} {n : Nat} {l : List Ev} (hl : l.length = n) (ho : ∀ x ∈ l, okE x) (h : w.ownsRow base 41 5 v n (l.flatMap evc)) : ∃ a cap, v = .slice a n cap ∧ IsE w a n cap l ∧ ∀ b off, a = some ⟨b, off, none⟩ → base ≤ b := by
  rcases h.2 with ⟨rfl, rfl⟩ | ⟨g, cap, cur, rfl, hb, hg, hn, hm, hs, ht⟩
  · exact ⟨none, 0, rfl, ⟨hl, Nat.le_refl _, Nat.zero_le _, ho, fun i hi => by omega⟩, by intro b off h; cases h⟩
  · refine ⟨_, cap, rfl, ⟨hl, hn, hm, ho, fun i hi => ?_⟩, by intro b off h; cases h; exact hb⟩
    have key : ∀ j, j < 5 → w.cell? ⟨g, 0 + i * 5 + j, none⟩ = (evc (l.getD i Ev0))[j]? := by
      intro j hj
      have h1 : cur.toList[i * 5 + j]? = (l.flatMap evc)[i * 5 + j]? := by
        rw [← ht, List.getElem?_take]
        rw [if_pos (by omega)]
      have h2 : (l.flatMap evc)[i * 5 + j]? = (evc (l.getD i Ev0))[j]? := by
        clear ht h1 hs hm hn hg hb h ho
        subst hl
        induction l generalizing i with
        | nil => simp at hi
        | cons x r ih =>
          cases i with
          | zero => simp only [List.flatMap_cons, List.getD_cons_zero]; rw [List.getElem?_append_left (by simp; omega)]; simp
          | succ i =>
            simp only [List.flatMap_cons, List.getD_cons_succ]
            rw [List.getElem?_append_right (by simp; omega)]
            rw [← ih i (by simpa using hi)]
            congr 1
            simp
            omega
      rw [Nat.zero_add, ← h2, ← h1]
      simp only [World.cell?, hg]
      simp
    refine ⟨g, 0, rfl, heap_lt hg, ?_, ?_, ?_, ?_, ?_⟩
    · simpa using key 0 (by omega)
    · simpa using key 1 (by omega)
    · simpa using key 2 (by omega)
    · simpa using key 3 (by omega)
    · simpa using key 4 (by omega)
end Go.Proofs.Ytggbaanoagbmdaa

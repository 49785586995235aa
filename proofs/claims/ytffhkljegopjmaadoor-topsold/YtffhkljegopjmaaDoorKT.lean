/- lines; slices.Clone; Lines -/
import Derived.Test.YtffhkljegopjmaaDoorKN
import Derived.Shelf.SlicesE.Clone
import Derived.Tactics
import Derived.Tactics2
import Derived.Defers
import Derived.Recover
import Derived.Laws.Pointers
namespace Go.Proofs.YtffhkljegopjmaaDoor
open Go.RowKit
set_option maxRecDepth 40000
/-- a line -/
structure Ln where
  it : Int
  wa : Int
  q : Int
  un : Int
def Ln0 : Ln := ⟨0, 0, 0, 0⟩
def LineAt (w : World) (b o : Nat) (x : Ln) : Prop :=
  w.cell? ⟨b, o, none⟩ = some (.int .i64 x.it) ∧ w.cell? ⟨b, o + 1, none⟩ = some (.int .i64 x.wa) ∧ w.cell? ⟨b, o + 2, none⟩ = some (.int .i64 x.q) ∧ w.cell? ⟨b, o + 3, none⟩ = some (.int .i64 x.un)
theorem LineAt.below {n : Nat} {w w' : World} {b o : Nat} {x : Ln} (h : LineAt w b o x) (hn : b < n) (hb : Below n w w') : LineAt w' b o x :=
  have k : ∀ j, w'.cell? ⟨b, j, none⟩ = w.cell? ⟨b, j, none⟩ := fun _ => World.cell?_of_block (hb.block b hn)
  ⟨(k _).trans h.1, (k _).trans h.2.1, (k _).trans h.2.2.1, (k _).trans h.2.2.2⟩
/-- lines in memory -/
def IsL (w : World) (a : Option Addr) (len cap : Nat) (l : List Ln) : Prop :=
  l.length = len ∧ len ≤ cap ∧ cap ≤ maxLen ∧ (∀ i, i < len → ∃ b off, a = some ⟨b, off, none⟩ ∧ b < w.heap.size ∧ LineAt w b (off + i * 4) (l.getD i Ln0)) ∧ (a = none → cap = 0)
theorem IsL.below {n : Nat} {w w' : World} {a : Option Addr} {len cap : Nat} {l : List Ln} (h : IsL w a len cap l) (hn : ∀ b off, a = some ⟨b, off, none⟩ → 0 < len → b < n) (hb : Below n w w') : IsL w' a len cap l := by
  refine ⟨h.1, h.2.1, h.2.2.1, fun i hi => ?_, h.2.2.2.2⟩
  obtain ⟨b, off, e, hlt, h0⟩ := h.2.2.2.1 i hi
  exact ⟨b, off, e, Nat.lt_of_lt_of_le hlt hb.size, h0.below (hn b off e (by omega)) hb⟩
theorem IsL.lt {w : World} {a : Option Addr} {len cap : Nat} {l : List Ln} (h : IsL w a len cap l) : ∀ b off, a = some ⟨b, off, none⟩ → 0 < len → b < w.heap.size := by
  intro b off e h0
  obtain ⟨b', off', e', hlt, _⟩ := h.2.2.2.1 0 h0
  rw [e] at e'; cases e'; exact hlt
theorem IsL.below' {w w' : World} {a : Option Addr} {len cap : Nat} {l : List Ln} (h : IsL w a len cap l) (hb : Below w.heap.size w w') : IsL w' a len cap l := h.below h.lt hb
theorem isL_nil (w : World) : IsL w none 0 0 [] := ⟨rfl, Nat.le_refl _, Nat.zero_le _, fun i hi => by omega, fun _ => rfl⟩
set_option maxHeartbeats 1000000 in
theorem clone_any (a : Option Addr) (len cap : Nat) (l : List Cl) (w : World) (h : IsC w a len cap l) (hbig : len * 48 ≤ 140737488355328) : Calls Tryd.prog 23 #[.slice a len cap] w fun e w' => ∃ a' c', e = .returned (.slice a' len c') ∧ IsC w' a' len c' l ∧ Below w.heap.size w w' := by
  have HV := hide h
  have HBIG : Hid ((0 + len) * 48 ≤ 140737488355328) := hide (by omega)
  have HO0 : Hid ((w.alloc (.cells #[] 43)).ownsRow w.heap.size 43 6 (.slice (some ⟨w.heap.size, 0, none⟩) 0 0) 0 (([] : List Cl).flatMap clc)) := hide (World.ownsRow_made w #[] 0 (Nat.le_refl _) (by decide) rfl)
  have HB0 : Hid (Below w.heap.size w (w.alloc (.cells #[] 43))) := hide ((Below.refl _ w).alloc (Nat.le_refl _) _)
  have HI0 := hide (HV.out.below' HB0.out)
  clear h hbig
  have q22 : ∀ (w : World) (a : Option Addr) (n c n' c' : Nat), (binOp .eql 22 (.slice a n c) (.slice none n' c')).run Tryd.prog w = .ok (.bool a.isNone) w := fun w a n c n' c' => Lib.run_eql_slice_nil w _ _ a n c n' c' Tryd.underlying22
  cases a with
  | none =>
    obtain rfl := HV.out.2.2.2.2.2 rfl
    obtain rfl : len = 0 := by have := HV.out.2.1; omega
    go_enter Tryd.func23, Tryd.ntmps23
    go_wp2
    go_ret
    exact ⟨none, 0, rfl, HV.out, Below.refl _ _⟩
  | some ad =>
    go_enter Tryd.func23, Tryd.ntmps23
    go_wp2_with (at_builtin; refine wpList_cells rfl _ _ rfl w.heap.size (.slice (some ⟨w.heap.size, 0, none⟩) 0 0) 0 [] rfl HO0.out (some ad) len cap l rfl HI0.out HBIG.out HB0.out.size ?_)
    intro v1 w1 HN
    have hN := HN.out
    have HB1 := hide (HB0.out.trans hN.2)
    obtain ⟨a9, c9, rfl, hI9, _⟩ := own_isC HV.out.1 HV.out.2.2.2.1 (by simpa using hN.1)
    have HI9 := hide hI9
    clear HN hN hI9
    go_wp2
    go_ret
    exact ⟨a9, c9, rfl, HI9.out, HB1.out⟩
theorem catch_idle (p q : Addr) (w : World) : CallsD Tryd.prog 22 #[.pointer (some p), .pointer (some q)] .returning w fun e u' w' => e = .returned (.tuple #[]) ∧ u' = .returning ∧ w' = w := by
  refine callsD_of_wpS Tryd.func22 rfl fun c₀ cs hu => ?_
  apply wpS_seq
  apply wpS_region
  simp [wpOpsS, go_sem, recoverD, hu, Tryd.ntmps22, Exit.thenS]
  refine wpS_cond (t := false) (by simp [Act.eval, Array.replicate]) ?_
  simp only [Bool.false_eq_true, if_false]
  refine wpS_of_wp (wp_skip ?_)
  cases c₀
  simp_all [bodyPostS, results, Tryd.results22]
/-- what lines come to -/
def linesR (k : Nat) : List Cl → List Ln → List Cl × Int
  | l, [] => (l, 0)
  | l, x :: r => if (moveR k l x.it x.wa x.q).2 = 0 then linesR k (moveR k l x.it x.wa x.q).1 r else ([], (moveR k l x.it x.wa x.q).2)
theorem linesR_append (k : Nat) : ∀ (xs ys : List Ln) (l : List Cl), linesR k l (xs ++ ys) = if (linesR k l xs).2 = 0 then linesR k (linesR k l xs).1 ys else ([], (linesR k l xs).2)
  | [], ys, l => by simp [linesR]
  | x :: r, ys, l => by
    by_cases h : (moveR k l x.it x.wa x.q).2 = 0
    · have e1 : linesR k l (x :: r) = linesR k (moveR k l x.it x.wa x.q).1 r := if_pos h
      have e2 : linesR k l (x :: (r ++ ys)) = linesR k (moveR k l x.it x.wa x.q).1 (r ++ ys) := if_pos h
      rw [List.cons_append, e1, e2, linesR_append k r ys]
    · have e1 : linesR k l (x :: r) = ([], (moveR k l x.it x.wa x.q).2) := if_neg h
      have e2 : linesR k l (x :: (r ++ ys)) = ([], (moveR k l x.it x.wa x.q).2) := if_neg h
      rw [List.cons_append, e1, e2, if_neg h]
theorem linesR_err (k : Nat) (xs : List Ln) (l : List Cl) (h : (linesR k l xs).2 ≠ 0) : (linesR k l xs).1 = [] := by
  induction xs generalizing l with
  | nil => exact absurd rfl h
  | cons x r ih =>
    simp only [linesR] at h ⊢
    by_cases h0 : (moveR k l x.it x.wa x.q).2 = 0
    · rw [if_pos h0] at h ⊢; exact ih _ h
    · rw [if_neg h0]
theorem linesR_len (k : Nat) (xs : List Ln) (l : List Cl) (hb : l.length * 48 ≤ 140737488355328) : (linesR k l xs).1.length * 48 ≤ 140737488355328 := by
  induction xs generalizing l with
  | nil => exact hb
  | cons x r ih =>
    simp only [linesR]
    split
    · refine ih _ ?_
      rcases moveR_cases k l x.it x.wa x.q with h | h
      · rw [h.2]; simp
      · have := h.behind.good.len; omega
    · simp
theorem IsC.setOther {w : World} {a : Option Addr} {len cap : Nat} {l : List Cl} (h : IsC w a len cap l) {g : Nat} {v u : Value} {t : TypeId} (hg : w.heap[g]? = some (.cells #[v] t (0, 0))) : IsC (w.setCell ⟨g, 0, none⟩ u) a len cap l := by
  refine ⟨h.1, h.2.1, h.2.2.1, h.2.2.2.1, fun i hi => ?_, h.2.2.2.2.2⟩
  obtain ⟨b, off, e, hlt, h0⟩ := h.2.2.2.2.1 i hi
  refine ⟨b, off, e, by simpa using hlt, h0.block fun j => ?_⟩
  have hne : b ≠ g := by
    rintro rfl
    have := h0.2.1
    simp [World.cell?, hg] at this
  exact World.cell?_of_block (Below.heap_setCell _ _ _ _ hne)
end Go.Proofs.YtffhkljegopjmaaDoor
